/- What the library's table holds. The value of a text of digits. No walk. The plain mathematics of the document's own answer: numerals, and products digit by digit. The walks of tallymanref.mulDiv and Part, where they answer. -/
import Derived.Test.YtcfgacdcgljbaaaGreatDoorBnA
import Derived.Test.YtcfgacdcgljbaaaGreatDoorShN
import Derived.Lib.LaidTab
import Derived.WalkSmall
import Derived.Lib.ItoaNum
import Derived.Test.YtcfgacdcgljbaaaGreatDoorBnF
import Derived.Test.YtcfgacdcgljbaaaGreatDoorBnN
import Derived.Test.YtcfgacdcgljbaaaGreatDoorCoIdx
import Derived.Laws.RangeString
import Derived.Lib.AppendIntMem
namespace Go.Proofs.YtcfgacdcgljbaaaGreatDoor
open Go.RowKit
structure TabG (w : World) : Prop where
  tab : Lib.TabIs Tryz.prog w "internal/strconv.uint64pow10" .u64 Lib.pow10Tab
theorem Tryz.gTabT : Tryz.prog.globalNamed "internal/strconv.uint64pow10" = some 9 := by kernel_rfl
theorem varT_lt {P : Program} {w : World} {n : String} {g : Nat} {cs : Array Value} (hg : P.globalNamed n = some g) (hv : w.var? P n = some cs) : g < w.heap.size := by
  unfold World.var? at hv
  simp only [hg, Option.bind_some] at hv
  rcases Nat.lt_or_ge g w.heap.size with h | h
  · exact h
  · simp [Array.getElem?_eq_none h] at hv
theorem TabG.below {w w' : World} (h : TabG w) (hb : Below w.heap.size w w') : TabG w' := ⟨var?_below hb Tryz.gTabT (varT_lt Tryz.gTabT h.tab) h.tab⟩
end Go.Proofs.YtcfgacdcgljbaaaGreatDoor
namespace Go.Proofs.YtcfgacdcgljbaaaGreatDoor
open Go.RowKit
def val1 (n : Int) (c : UInt8) : Int := if 48 ≤ (c.toNat : Int) ∧ (c.toNat : Int) ≤ 57 then n * 10 + ((c.toNat : Int) - 48) else n
/-- The number that the digits of a text make. -/
def val (l : List UInt8) : Int := l.foldl val1 0
theorem val_snoc (l : List UInt8) (c : UInt8) : val (l ++ [c]) = val1 (val l) c := by simp [val]
/-- The number of a text, below 0 behind a sign. -/
def sval (l : List UInt8) : Int := if l.head? = some 45 then -val l else val l
theorem val1_bd (n : Int) (c : UInt8) (h : 0 ≤ n) : 0 ≤ val1 n c ∧ val1 n c ≤ n * 10 + 9 := by
  unfold val1; split <;> omega
theorem val_bd : ∀ (m : Nat) (l : List UInt8), l.length = m → 0 ≤ val l ∧ val l < 10 ^ m
  | 0, l, h => by
    have : l = [] := List.eq_nil_of_length_eq_zero h
    subst this; simp [val]
  | m + 1, l, h => by
    obtain ⟨l', c, rfl⟩ : ∃ l' c, l = l' ++ [c] := by
      rcases List.eq_nil_or_concat l with rfl | ⟨l', c, rfl⟩
      · simp at h
      · exact ⟨l', c, by simp⟩
    have ih := val_bd m l' (by simpa using h)
    have := val1_bd (val l') c ih.1
    rw [val_snoc, Int.pow_succ]
    omega
theorem take_snoc (s : ByteArray) (k : Nat) (h : k < s.size) : s.data.toList.take (k + 1) = s.data.toList.take k ++ [s[k]] := by
  rw [List.take_succ_eq_append_getElem (by simpa using h)]; rfl
end Go.Proofs.YtcfgacdcgljbaaaGreatDoor
namespace Go.Proofs.YtcfgacdcgljbaaaGreatDoor
theorem decDigits_dig : ∀ (m u : Nat), u ≤ m → ∀ c ∈ Lib.decDigits u, 48 ≤ c.toNat ∧ c.toNat ≤ 57
  | m, u, hm, c, hc => by
    by_cases h : u < 10
    · rw [Lib.decDigits, dif_pos h] at hc
      simp only [List.mem_singleton] at hc
      subst hc
      simp; omega
    · rw [Lib.decDigits, dif_neg h] at hc
      rcases List.mem_append.1 hc with hc | hc
      · match m, hm with
        | 0, hm => omega
        | m + 1, hm => exact decDigits_dig m (u / 10) (by omega) c hc
      · simp only [List.mem_singleton] at hc
        subst hc
        simp; omega
theorem val1_digit (n : Int) (c : UInt8) (h : 48 ≤ c.toNat ∧ c.toNat ≤ 57) : val1 n c = n * 10 + ((c.toNat : Int) - 48) := by
  unfold val1; rw [if_pos (by omega)]
theorem val_decDigits : ∀ (m u : Nat), u ≤ m → val (Lib.decDigits u) = (u : Int)
  | m, u, hm => by
    by_cases h : u < 10
    · rw [Lib.decDigits, dif_pos h]
      have : (UInt8.ofNat (48 + u)).toNat = 48 + u := by simp; omega
      unfold val
      simp only [List.foldl_cons, List.foldl_nil]
      rw [val1_digit _ _ (by omega), this]; omega
    · rw [Lib.decDigits, dif_neg h, val_snoc]
      have : (UInt8.ofNat (48 + u % 10)).toNat = 48 + u % 10 := by simp; omega
      match m, hm with
      | 0, hm => omega
      | m + 1, hm =>
        rw [val_decDigits m (u / 10) (by omega), val1_digit _ _ (by omega), this]; omega
theorem fold_ge : ∀ (l : List UInt8) (x : Int), 0 ≤ x → x ≤ l.foldl val1 x
  | [], x, _ => by simp
  | c :: l, x, h => by
    have h1 : 0 ≤ val1 x c ∧ x ≤ val1 x c := by unfold val1; split <;> omega
    have := fold_ge l (val1 x c) h1.1
    simp only [List.foldl_cons]; omega
theorem val_take_le (l : List UInt8) (k : Nat) : 0 ≤ val (l.take k) ∧ val (l.take k) ≤ val l := by
  have h0 := (val_bd (l.take k).length _ rfl).1
  refine ⟨h0, ?_⟩
  have e : val l = (l.drop k).foldl val1 (val (l.take k)) := by
    unfold val; rw [← List.foldl_append, List.take_append_drop]
  rw [e]; exact fold_ge _ _ h0
theorem digits_ne (u : Nat) : Lib.decDigits u ≠ [] := by
  intro h
  have := Lib.decDigits_length u
  rw [h] at this
  have := Lib.nDigits_pos u
  simp at *; omega
/-- One digit more: the quotient and the remainder of ten times so much and a digit. -/
theorem step_quo (a P d c : Int) (hc : 0 < c) :
    a * P / c * 10 + a * d / c + (a * P % c * 10 + a * d % c) / c = a * (P * 10 + d) / c ∧ (a * P % c * 10 + a * d % c) % c = a * (P * 10 + d) % c := by
  have h1 := Int.mul_ediv_add_emod (a * P) c
  have h2 := Int.mul_ediv_add_emod (a * d) c
  have e : a * (P * 10 + d) = (a * P % c * 10 + a * d % c) + c * (a * P / c * 10 + a * d / c) := by
    rw [Int.mul_add, ← Int.mul_assoc, Int.mul_add, ← Int.mul_assoc]; omega
  rw [e, Int.add_mul_ediv_left _ _ (by omega), Int.add_mul_emod_self_left]
  omega
end Go.Proofs.YtcfgacdcgljbaaaGreatDoor
namespace Go.Proofs.YtcfgacdcgljbaaaGreatDoor
open Go.RowKit
theorem below_iter {w w1 : World} (hb : Below w.heap.size w w1) (s : ByteArray) (k : Nat) : Below w.heap.size w (w1.iter s k) := hb.alloc hb.size _
set_option maxHeartbeats 2000000 in
theorem mulDiv_any (a c : Int) (b : Nat) (w : World) (hg : TabG w) (ha : 0 ≤ a) (ha' : a ≤ 20000000000000) (hb : (b : Int) ≤ c) (hc : 1 ≤ c) (hc' : c ≤ 100000000) :
    Calls Tryz.prog 199 #[.int .i64 a, .int .i64 b, .int .i64 c] w fun e w' => e = .returned (.int .i64 (shr a b c)) ∧ Below w.heap.size w w' := by
  have HT : Hid (Lib.TabIs Tryz.prog w "internal/strconv.uint64pow10" .u64 Lib.pow10Tab) := hg.tab
  clear hg
  have hitoa : Lib.itoa (b : Int) = Lib.decDigits b := by unfold Lib.itoa; rw [if_neg (by omega)]; rfl
  obtain ⟨s, hs⟩ : ∃ s : ByteArray, s = ⟨(Lib.decDigits b).toArray⟩ := ⟨_, rfl⟩
  have hl : s.data.toList = Lib.decDigits b := by rw [hs]
  have HD : Hid (∀ k (h : k < s.size), 48 ≤ (s[k]'h).toNat ∧ (s[k]'h).toNat ≤ 57) := by
    intro k h
    refine decDigits_dig b b (Nat.le_refl _) _ ?_
    rw [← hl]
    exact List.getElem_mem (by simpa using h)
  have HV : Hid (val s.data.toList = (b : Int)) := by show _ = _; rw [hl]; exact val_decDigits b b (Nat.le_refl _)
  have HE : Hid (s = ⟨(Lib.decDigits b).toArray⟩) := hs
  have HI : Hid (Lib.itoa (b : Int) = Lib.decDigits b) := hitoa
  clear hl hs hitoa
  go_enter Tryz.func199, Tryz.ntmps199
  go_wp2_with (go_at_call 115; refine (Tryz.strconv_Itoa (b : Int) (by omega) (by omega) _ HT.out).mono ?_; rintro e w1 ⟨rfl, n1, os1, hw1⟩; rw [HI.out, ← HE.out]; have hb1 : Below w.heap.size w w1 := hw1 ▸ Lib.below_grow _ _ (Nat.le_refl _) _ _; clear hw1)
  clear HI HE HT
  go_loopw [7, 8] (fun q r wr => ∃ k : Nat, k ≤ s.size ∧ wr = w1.iter s k ∧ q = .int .i64 (a * val (s.data.toList.take k) / c) ∧ r = .int .i64 (a * val (s.data.toList.take k) % c)) (fun _ _ wr => s.size - wr.iterPos w1.heap.size)
  case atStart => exact ⟨0, Nat.zero_le _, rfl, by simp [val], by simp [val]⟩
  case round =>
    obtain ⟨k, hk, rfl, rfl, rfl⟩ := hrel
    have hpos : ∀ j, (w1.iter s j).iterPos w1.heap.size = j := fun j => iterPos_of (w1.iter_heap s j)
    have hv := val_take_le s.data.toList k
    rw [HV.out] at hv
    by_cases hlt : k < s.size
    · have hd := HD.out k hlt
      have HS : Hid (val (s.data.toList.take (k + 1)) = val (s.data.toList.take k) * 10 + ((s[k].toNat : Int) - 48)) := by
        show _ = _
        rw [take_snoc s k hlt, val_snoc, val1_digit _ _ hd]
      have hnx := fun ty => run_next_ascii (P := Tryz.prog) w1 s k ty hlt (by omega)
      have x0 : (48 : Int) ≤ (s[k].toNat : Int) := by omega
      have x1 : (s[k].toNat : Int) ≤ 57 := by omega
      generalize (s[k].toNat : Int) = x at hnx HS x0 x1
      generalize val (s.data.toList.take k) = P at hv HS
      have st := step_quo a P (x - 48) c (by omega)
      have HQ : Hid (a * P / c * 10 + a * (x - 48) / c + (a * P % c * 10 + a * (x - 48) % c) / c = a * (P * 10 + (x - 48)) / c) := st.1
      have HR : Hid ((a * P % c * 10 + a * (x - 48) % c) % c = a * (P * 10 + (x - 48)) % c) := st.2
      have q0 : 0 ≤ a * P / c := shr_nonneg a P c ha hv.1 (by omega)
      have q1 : a * P / c ≤ a := shr_le a P c ha (by omega) (by omega)
      have r0 : 0 ≤ a * P % c := Int.emod_nonneg _ (by omega)
      have r1 : a * P % c < c := Int.emod_lt_of_pos _ (by omega)
      have k0 : 0 ≤ a * (x - 48) := Int.mul_nonneg ha (by omega)
      have k1 : a * (x - 48) ≤ 20000000000000 * 9 := Int.mul_le_mul ha' (by omega) (by omega) (by omega)
      have k2 : 0 ≤ a * (x - 48) / c := Int.ediv_nonneg k0 (by omega)
      have k3 : a * (x - 48) / c ≤ a * (x - 48) := Int.ediv_le_self _ k0
      have k4 : 0 ≤ a * (x - 48) % c := Int.emod_nonneg _ (by omega)
      have k5 : a * (x - 48) % c < c := Int.emod_lt_of_pos _ (by omega)
      have k6 : 0 ≤ (a * P % c * 10 + a * (x - 48) % c) / c := Int.ediv_nonneg (by omega) (by omega)
      have k7 : (a * P % c * 10 + a * (x - 48) % c) / c ≤ a * P % c * 10 + a * (x - 48) % c := Int.ediv_le_self _ (by omega)
      clear st hd
      go_wp2
      go_roundw
      case rel => exact ⟨k + 1, by omega, rfl, by rw [HS.out, ← HQ.out], by rw [HS.out, ← HR.out]⟩
      case measure => rw [hpos, hpos]; omega
    · have hnx := fun ty => run_next_end (P := Tryz.prog) w1 s k ty hlt
      have ht : s.data.toList.take k = s.data.toList := List.take_of_length_le (by simp; omega)
      rw [ht, HV.out]
      clear ht
      go_wp2
      go_ret
      exact ⟨rfl, below_iter hb1 s k⟩
set_option maxHeartbeats 1000000 in
theorem refPart_ok (t s v : Int) (w : World) (hg : TabG w) (ht : 0 ≤ t) (ht' : t ≤ 20000000000000) (hs : 0 ≤ s) (hsv : s ≤ v) (hv : 1 ≤ v) (hv' : v ≤ 100000) :
    Calls Tryz.prog 142 #[.int .i64 t, .int .i64 s, .int .i64 v] w fun e w' => e = .returned (.tuple #[.int .i64 (shr t s v), .int .i64 0]) ∧ Below w.heap.size w w' := by
  obtain ⟨n, rfl⟩ : ∃ n : Nat, s = (n : Int) := ⟨s.toNat, by omega⟩
  have HG : Hid (TabG w) := hg
  clear hg
  go_enter Tryz.func142, Tryz.ntmps142
  go_wp2_with (first
    | (go_at_call 45; refine (in_yes _ _ _ _ (by omega) (by omega)).mono ?_; rintro e w' ⟨rfl, hw⟩; subst w')
    | (go_at_call 199; refine (mulDiv_any t v n _ HG.out ht ht' hsv hv (by omega)).mono ?_; rintro e w1 ⟨rfl, hb⟩))
  go_ret2
  exact ⟨rfl, hb⟩
end Go.Proofs.YtcfgacdcgljbaaaGreatDoor
