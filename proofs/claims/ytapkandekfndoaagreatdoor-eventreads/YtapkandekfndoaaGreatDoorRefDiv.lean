/- The walks of tallymanref.mulDiv and Part. -/
import Derived.Test.YtapkandekfndoaaGreatDoorGlob
import Derived.Test.YtapkandekfndoaaGreatDoorRefMath
import Derived.Test.YtapkandekfndoaaGreatDoorMoneyShare
import Derived.Laws.RangeString
import Derived.Lib.AppendIntMem
namespace Go.Proofs.YtapkandekfndoaaGreatDoor
open Go.RowKit
theorem below_iter {w w1 : World} (hb : Below w.heap.size w w1) (s : ByteArray) (k : Nat) : Below w.heap.size w (w1.iter s k) := hb.alloc hb.size _
set_option maxHeartbeats 2000000 in
theorem mulDiv_any (a c : Int) (b : Nat) (w : World) (hg : Glob w) (ha : 0 ≤ a) (ha' : a ≤ 20000000000000) (hb : (b : Int) ≤ c) (hc : 1 ≤ c) (hc' : c ≤ 100000000) :
    Calls Tryz.prog 39 #[.int .i64 a, .int .i64 b, .int .i64 c] w fun e w' => e = .returned (.int .i64 (shr a b c)) ∧ Below w.heap.size w w' := by
  have HT : Hid (Lib.TabIs Tryz.prog w "internal/strconv.uint64pow10" .u64 Lib.pow10Tab) := hg.tab
  clear hg
  have hitoa : Lib.itoa (b : Int) = Lib.decDigits b := by unfold Lib.itoa; rw [if_neg (by omega)]; rfl
  obtain ⟨s, hs⟩ : ∃ s : ByteArray, s = ⟨(Lib.decDigits b).toArray⟩ := ⟨_, rfl⟩
  have hl : s.data.toList = Lib.decDigits b := by rw [hs]
  have HD : Hid (∀ k (h : k < s.size), 48 ≤ (s[k]'h).toNat ∧ (s[k]'h).toNat ≤ 57) := by
    intro k h
    refine decDigits_dig b b (Nat.le_refl _) _ ?_
    rw [← hl]
    exact List.getElem_mem (by simpa using h)
  have HV : Hid (val s.data.toList = (b : Int)) := by show _ = _; rw [hl]; exact val_decDigits b b (Nat.le_refl _)
  have HE : Hid (s = ⟨(Lib.decDigits b).toArray⟩) := hs
  have HI : Hid (Lib.itoa (b : Int) = Lib.decDigits b) := hitoa
  clear hl hs hitoa
  go_enter Tryz.func39, Tryz.ntmps39
  go_wp2_with (go_at_call 46; refine (Tryz.strconv_Itoa (b : Int) (by omega) (by omega) _ HT.out).mono ?_; rintro e w1 ⟨rfl, n1, os1, hw1⟩; rw [HI.out, ← HE.out]; have hb1 : Below w.heap.size w w1 := hw1 ▸ Lib.below_grow _ _ (Nat.le_refl _) _ _; clear hw1)
  clear HI HE HT
  go_loopw [7, 8] (fun q r wr => ∃ k : Nat, k ≤ s.size ∧ wr = w1.iter s k ∧ q = .int .i64 (a * val (s.data.toList.take k) / c) ∧ r = .int .i64 (a * val (s.data.toList.take k) % c)) (fun _ _ wr => s.size - wr.iterPos w1.heap.size)
  case atStart => exact ⟨0, Nat.zero_le _, rfl, by simp [val], by simp [val]⟩
  case round =>
    obtain ⟨k, hk, rfl, rfl, rfl⟩ := hrel
    have hpos : ∀ j, (w1.iter s j).iterPos w1.heap.size = j := fun j => iterPos_of (w1.iter_heap s j)
    have hv := val_take_le s.data.toList k
    rw [HV.out] at hv
    by_cases hlt : k < s.size
    · have hd := HD.out k hlt
      have HS : Hid (val (s.data.toList.take (k + 1)) = val (s.data.toList.take k) * 10 + ((s[k].toNat : Int) - 48)) := by
        show _ = _
        rw [take_snoc s k hlt, val_snoc, val1_digit _ _ hd]
      have hnx := fun ty => run_next_ascii (P := Tryz.prog) w1 s k ty hlt (by omega)
      have x0 : (48 : Int) ≤ (s[k].toNat : Int) := by omega
      have x1 : (s[k].toNat : Int) ≤ 57 := by omega
      generalize (s[k].toNat : Int) = x at hnx HS x0 x1
      generalize val (s.data.toList.take k) = P at hv HS
      have st := step_quo a P (x - 48) c (by omega)
      have HQ : Hid (a * P / c * 10 + a * (x - 48) / c + (a * P % c * 10 + a * (x - 48) % c) / c = a * (P * 10 + (x - 48)) / c) := st.1
      have HR : Hid ((a * P % c * 10 + a * (x - 48) % c) % c = a * (P * 10 + (x - 48)) % c) := st.2
      have q0 : 0 ≤ a * P / c := shr_nonneg a P c ha hv.1 (by omega)
      have q1 : a * P / c ≤ a := shr_le a P c ha (by omega) (by omega)
      have r0 : 0 ≤ a * P % c := Int.emod_nonneg _ (by omega)
      have r1 : a * P % c < c := Int.emod_lt_of_pos _ (by omega)
      have k0 : 0 ≤ a * (x - 48) := Int.mul_nonneg ha (by omega)
      have k1 : a * (x - 48) ≤ 20000000000000 * 9 := Int.mul_le_mul ha' (by omega) (by omega) (by omega)
      have k2 : 0 ≤ a * (x - 48) / c := Int.ediv_nonneg k0 (by omega)
      have k3 : a * (x - 48) / c ≤ a * (x - 48) := Int.ediv_le_self _ k0
      have k4 : 0 ≤ a * (x - 48) % c := Int.emod_nonneg _ (by omega)
      have k5 : a * (x - 48) % c < c := Int.emod_lt_of_pos _ (by omega)
      have k6 : 0 ≤ (a * P % c * 10 + a * (x - 48) % c) / c := Int.ediv_nonneg (by omega) (by omega)
      have k7 : (a * P % c * 10 + a * (x - 48) % c) / c ≤ a * P % c * 10 + a * (x - 48) % c := Int.ediv_le_self _ (by omega)
      clear st hd
      go_wp2
      go_roundw
      case rel => exact ⟨k + 1, by omega, rfl, by rw [HS.out, ← HQ.out], by rw [HS.out, ← HR.out]⟩
      case measure => rw [hpos, hpos]; omega
    · have hnx := fun ty => run_next_end (P := Tryz.prog) w1 s k ty hlt
      have ht : s.data.toList.take k = s.data.toList := List.take_of_length_le (by simp; omega)
      rw [ht, HV.out]
      clear ht
      go_wp2
      go_ret
      exact ⟨rfl, below_iter hb1 s k⟩
set_option maxHeartbeats 1000000 in
theorem refPart_ok (t s v : Int) (w : World) (hg : Glob w) (ht : 0 ≤ t) (ht' : t ≤ 20000000000000) (hs : 0 ≤ s) (hsv : s ≤ v) (hv : 1 ≤ v) (hv' : v ≤ 100000) :
    Calls Tryz.prog 6 #[.int .i64 t, .int .i64 s, .int .i64 v] w fun e w' => e = .returned (.tuple #[.int .i64 (shr t s v), .int .i64 0]) ∧ Below w.heap.size w w' := by
  obtain ⟨n, rfl⟩ : ∃ n : Nat, s = (n : Int) := ⟨s.toNat, by omega⟩
  have HG : Hid (Glob w) := hg
  clear hg
  go_enter Tryz.func6, Tryz.ntmps6
  go_wp2_with (first
    | (go_at_call 38; refine (in_yes _ _ _ _ (by omega) (by omega)).mono ?_; rintro e w' ⟨rfl, hw⟩; subst w')
    | (go_at_call 39; refine (mulDiv_any t v n _ HG.out ht ht' hsv hv (by omega)).mono ?_; rintro e w1 ⟨rfl, hb⟩))
  go_ret2
  exact ⟨rfl, hb⟩
set_option maxHeartbeats 1000000 in
theorem refPart_bad (t s v : Int) (w : World) (h : t < 0 ∨ 20000000000000 < t ∨ v < 1 ∨ 100000 < v ∨ s < 0 ∨ v < s) :
    Calls Tryz.prog 6 #[.int .i64 t, .int .i64 s, .int .i64 v] w fun e w' => e = .returned (.tuple #[.int .i64 0, .int .i64 1]) ∧ w' = w := by
  by_cases c1 : 0 ≤ t ∧ t ≤ 20000000000000
  · by_cases c2 : 1 ≤ v ∧ v ≤ 100000
    · have c3 : s < 0 ∨ v < s := by omega
      go_enter Tryz.func6, Tryz.ntmps6
      go_wp2_with (first
        | (go_at_call 38; refine (in_yes _ _ _ _ (by omega) (by omega)).mono ?_; rintro e w' ⟨rfl, hw⟩; subst w')
        | (go_at_call 38; refine (in_no _ _ _ _ (by omega)).mono ?_; rintro e w' ⟨rfl, hw⟩; subst w'))
      go_ret2
      exact ⟨rfl, rfl⟩
    · go_enter Tryz.func6, Tryz.ntmps6
      go_wp2_with (first
        | (go_at_call 38; refine (in_yes _ _ _ _ (by omega) (by omega)).mono ?_; rintro e w' ⟨rfl, hw⟩; subst w')
        | (go_at_call 38; refine (in_no _ _ _ _ (by omega)).mono ?_; rintro e w' ⟨rfl, hw⟩; subst w'))
      go_ret2
      exact ⟨rfl, rfl⟩
  · go_enter Tryz.func6, Tryz.ntmps6
    go_wp2_with (first
      | (go_at_call 38; refine (in_no _ _ _ _ (by omega)).mono ?_; rintro e w' ⟨rfl, hw⟩; subst w'))
    go_ret2
    exact ⟨rfl, rfl⟩
set_option maxHeartbeats 1000000 in
theorem part_bad (t s v : Int) (w : World) (h : t < 0 ∨ 20000000000000 < t ∨ v < 1 ∨ 100000 < v ∨ s < 0 ∨ v < s) :
    Calls Tryz.prog 7 #[.int .i64 t, .int .i64 s, .int .i64 v] w fun e w' => e = .returned (.tuple #[.int .i64 0, .iface 23 (.int .i64 1)]) ∧ w' = w := by
  have hcase : t < 0 ∨ (0 ≤ t ∧ 20000000000000 < t) ∨ ((0 ≤ t ∧ t ≤ 20000000000000) ∧ (v < 1 ∨ (1 ≤ v ∧ 100000 < v) ∨ (1 ≤ v ∧ v ≤ 100000 ∧ s < 0) ∨ (1 ≤ v ∧ v ≤ 100000 ∧ 0 ≤ s ∧ v < s))) := by omega
  clear h
  rcases hcase with c | ⟨c0, c⟩ | ⟨⟨c0, c1⟩, c | ⟨c2, c⟩ | ⟨c2, c3, c⟩ | ⟨c2, c3, c4, c⟩⟩
  all_goals
    go_enter Tryz.func7, Tryz.ntmps7
    go_wp2
    go_ret2
    exact ⟨rfl, rfl⟩
end Go.Proofs.YtapkandekfndoaaGreatDoor
