/- The walks of tallymanref.Amount and tallymanref.ParseAmount. -/
import Derived.Test.YtapkandekfndoaaGreatDoorRefDiv
import Derived.Test.YtapkandekfndoaaGreatDoorRefAmtMath
namespace Go.Proofs.YtapkandekfndoaaGreatDoor
open Go.RowKit
def strSize : Value → Nat | .string s => s.size | _ => 0
theorem ba_append (a b : ByteArray) : (a ++ b).data.toList = a.data.toList ++ b.data.toList := by simp
theorem ba_extract (x : ByteArray) (a b : Nat) : (x.extract a b).data.toList = (x.data.toList.take b).drop a := by
  rw [ByteArray.data_extract, Array.toList_extract, List.drop_take]
theorem ba_len (x : ByteArray) : x.data.toList.length = x.size := by simp
theorem nought_size (x : ByteArray) : ((⟨#[48]⟩ : ByteArray) ++ x).size = x.size + 1 := by
  rw [← ba_len, ba_append, List.length_append, ba_len x]; show 1 + x.size = _; omega
theorem nought_list (x : ByteArray) : ((⟨#[48]⟩ : ByteArray) ++ x).data.toList = 48 :: x.data.toList := by rw [ba_append]; rfl
/-- What is written behind the padding. -/
theorem amount_end (n : Int) (sg x s : ByteArray) (hsg : sg.data.toList = if n < 0 then [45] else []) (hs : s.data.toList = Lib.decDigits n.natAbs) (hp : pad3 x.data.toList = pad3 s.data.toList) (h3 : 3 ≤ x.size) :
    (sg ++ x.extract 0 (x.size - 2) ++ ⟨#[46]⟩ ++ x.extract (x.size - 2) x.size).data.toList = byt (amt n) := by
  have e : x.data.toList = pad3 (Lib.decDigits n.natAbs) := by rw [← hs, ← hp, pad3_long _ (by rw [ba_len]; exact h3)]
  rw [amount_is, ← e, ba_append, ba_append, ba_append, ba_extract, ba_extract, hsg, ba_len]
  rw [List.take_of_length_le (l := x.data.toList) (i := x.size) (by rw [ba_len]; exact Nat.le_refl _)]
  simp
set_option maxHeartbeats 2000000 in
theorem amount_pos (n : Nat) (w : World) (hg : Glob w) (h1 : n ≤ 9223372036854775807) :
    Calls Tryz.prog 13 #[.int .i64 n] w fun e w' => e = .returned (.string ⟨(byt (amt n)).toArray⟩) ∧ Below w.heap.size w w' := by
  have HT : Hid (Lib.TabIs Tryz.prog w "internal/strconv.uint64pow10" .u64 Lib.pow10Tab) := hg.tab
  clear hg
  obtain ⟨s, hs⟩ : ∃ s : ByteArray, s = ⟨(Lib.itoa (n : Int)).toArray⟩ := ⟨_, rfl⟩
  have hitoa : Lib.itoa (n : Int) = Lib.decDigits n := by unfold Lib.itoa; rw [if_neg (by omega)]; rfl
  have hl : s.data.toList = Lib.decDigits n := by rw [hs, hitoa]
  have hlen : s.size = Lib.nDigits n := by rw [← Lib.decDigits_length, ← hl]; simp
  have hp : 0 < s.size := by rw [hlen]; exact Lib.nDigits_pos n
  have hsz : s.size ≤ 20 := by
    rw [hlen, ← wdN_nDigits n]; exact (wdN_le 20 n (by omega) (by omega)).2
  have hne : (s[0].toNat : Int) ≠ 45 := by
    have := decDigits_dig n n (Nat.le_refl _) s[0] (by rw [← hl]; exact List.getElem_mem (by simpa using hp))
    omega
  have HE : Hid (s = ⟨(Lib.itoa (n : Int)).toArray⟩) := hs
  have HL : Hid (s.data.toList = Lib.decDigits n) := hl
  clear hs hitoa hl hlen
  go_enter Tryz.func13, Tryz.ntmps13
  go_wp2_with (go_at_call 46; refine (Tryz.strconv_Itoa (n : Int) (by omega) (by omega) _ HT.out).mono ?_; rintro e w1 ⟨rfl, n1, os1, hw1⟩; rw [← HE.out]; have hb1 : Below w.heap.size w w1 := hw1 ▸ Lib.below_grow _ _ (Nat.le_refl _) _ _; clear hw1)
  go_loop [3] (fun v => ∃ x : ByteArray, v = .string x ∧ 1 ≤ x.size ∧ x.size ≤ 20 ∧ pad3 x.data.toList = pad3 s.data.toList) (fun v => 3 - strSize v)
  case atStart => exact ⟨s, rfl, hp, hsz, rfl⟩
  case round =>
    obtain ⟨x, rfl, x1, x2, hpad⟩ := hrel
    have HP : Hid (pad3 x.data.toList = pad3 s.data.toList) := hpad
    clear hpad
    by_cases hlt : x.size < 3
    · go_wp2
      go_round
      case rel =>
        refine ⟨_, rfl, ?_, ?_, ?_⟩
        · rw [nought_size]; omega
        · rw [nought_size]; omega
        · rw [nought_list, ← HP.out]; exact pad3_step _ (by rw [ba_len]; exact hlt)
      case measure => simp only [strSize]; rw [nought_size]; omega
    · go_wp2
      go_quiet (fail)
      go_wp2
      go_ret
      refine ⟨ret_str ?_, below_drewN hb1 _⟩
      exact amount_end (n : Int) ⟨#[]⟩ x s (by rw [if_neg (by omega)]) HL.out HP.out (by omega)
set_option maxHeartbeats 2000000 in
theorem amount_neg (m : Nat) (w : World) (hg : Glob w) (h0 : 1 ≤ m) (h1 : m ≤ 9223372036854775808) :
    Calls Tryz.prog 13 #[.int .i64 (-(m : Int))] w fun e w' => e = .returned (.string ⟨(byt (amt (-(m : Int)))).toArray⟩) ∧ Below w.heap.size w w' := by
  have HT : Hid (Lib.TabIs Tryz.prog w "internal/strconv.uint64pow10" .u64 Lib.pow10Tab) := hg.tab
  clear hg
  obtain ⟨s, hs⟩ : ∃ s : ByteArray, s = ⟨(Lib.itoa (-(m : Int))).toArray⟩ := ⟨_, rfl⟩
  have hitoa : Lib.itoa (-(m : Int)) = 45 :: Lib.decDigits m := by
    unfold Lib.itoa; rw [if_pos (by omega)]; congr 2; omega
  have hl : s.data.toList = 45 :: Lib.decDigits m := by rw [hs, hitoa]
  have hlen : s.size = Lib.nDigits m + 1 := by rw [← ba_len, hl, List.length_cons, Lib.decDigits_length]
  have hp : 1 < s.size := by have := Lib.nDigits_pos m; omega
  have hsz : s.size ≤ 21 := by
    rw [hlen, ← wdN_nDigits m]; have := (wdN_le 20 m (by omega) (by omega)).2; omega
  have hp0 : 0 < s.size := by omega
  have hne : ((s[0]'hp0).toNat : Int) = 45 := by
    have : s.data.toList.head? = some (s[0]'hp0) := head_is s hp0
    rw [hl] at this
    simp at this
    rw [← this]; rfl
  have hx : (s.extract 1 s.size).data.toList = Lib.decDigits m := by
    rw [ba_extract, List.take_of_length_le (by rw [ba_len]; exact Nat.le_refl _), hl]; rfl
  have hxs : (s.extract 1 s.size).size = s.size - 1 := by rw [← ba_len, hx, Lib.decDigits_length]; omega
  have HE : Hid (s = ⟨(Lib.itoa (-(m : Int))).toArray⟩) := hs
  have HL : Hid ((s.extract 1 s.size).data.toList = Lib.decDigits m) := hx
  have HX : Hid ((s.extract 1 s.size).size = s.size - 1) := hxs
  clear hs hitoa hl hlen hx hxs
  go_enter Tryz.func13, Tryz.ntmps13
  go_wp2_with (go_at_call 46; refine (Tryz.strconv_Itoa (-(m : Int)) (by omega) (by omega) _ HT.out).mono ?_; rintro e w1 ⟨rfl, n1, os1, hw1⟩; rw [← HE.out]; have hb1 : Below w.heap.size w w1 := hw1 ▸ Lib.below_grow _ _ (Nat.le_refl _) _ _; clear hw1)
  go_quiet (fail)
  go_wp2
  go_loop [3] (fun v => ∃ x : ByteArray, v = .string x ∧ 1 ≤ x.size ∧ x.size ≤ 20 ∧ pad3 x.data.toList = pad3 (s.extract 1 s.size).data.toList) (fun v => 3 - strSize v)
  case atStart => exact ⟨s.extract 1 s.size, rfl, by rw [HX.out]; omega, by rw [HX.out]; omega, rfl⟩
  case round =>
    obtain ⟨x, rfl, x1, x2, hpad⟩ := hrel
    have HP : Hid (pad3 x.data.toList = pad3 (s.extract 1 s.size).data.toList) := hpad
    clear hpad
    by_cases hlt : x.size < 3
    · go_wp2
      go_round
      case rel =>
        refine ⟨_, rfl, ?_, ?_, ?_⟩
        · rw [nought_size]; omega
        · rw [nought_size]; omega
        · rw [nought_list, ← HP.out]; exact pad3_step _ (by rw [ba_len]; exact hlt)
      case measure => simp only [strSize]; rw [nought_size]; omega
    · go_wp2
      go_quiet (fail)
      go_wp2
      go_ret
      refine ⟨ret_str ?_, below_drewN (below_drewN hb1 _) _⟩
      exact amount_end (-(m : Int)) ⟨#[45]⟩ x (s.extract 1 s.size) (by rw [if_pos (by omega)]) (by rw [HL.out]; congr 1; omega) HP.out (by omega)
theorem amount_any (n : Int) (w : World) (hg : Glob w) (h0 : -9223372036854775808 ≤ n) (h1 : n ≤ 9223372036854775807) :
    Calls Tryz.prog 13 #[.int .i64 n] w fun e w' => e = .returned (.string ⟨(byt (amt n)).toArray⟩) ∧ Below w.heap.size w w' := by
  by_cases h : n < 0
  · obtain ⟨m, rfl⟩ : ∃ m : Nat, n = -(m : Int) := ⟨n.natAbs, by omega⟩
    exact amount_neg m w hg (by omega) (by omega)
  · obtain ⟨m, rfl⟩ : ∃ m : Nat, n = (m : Int) := ⟨n.natAbs, by omega⟩
    exact amount_pos m w hg (by omega)
end Go.Proofs.YtapkandekfndoaaGreatDoor
