/- The walks of day.leap, day.length, day.leaps and day.firstOf. -/
import Derived.Test.YtmldaiofghpfdaaGreatDoorRows
import Derived.Test.YtmldaiofghpfdaaGreatDoorBnDay
import Derived.WalkKit
import Derived.ProofKit
import Derived.OpenShut
import Derived.WalkSpells
import Derived.Deep.QuietTactic
import Derived.BigQuiet
namespace Go.Proofs.YtmldaiofghpfdaaGreatDoor
open Go.RowKit
theorem dret_int {k : IntKind} {a b : Int} (h : a = b) : Ending.returned (.int k a) = .returned (.int k b) := by rw [h]
theorem dret_bool {a b : Bool} (h : a = b) : Ending.returned (.bool a) = .returned (.bool b) := by rw [h]
/-- How long the k-th month is (from 0), in a year with a short February: the table day.lengths. -/
def ltab (k : Nat) : Int := if k = 1 then 28 else if k = 3 ∨ k = 5 ∨ k = 8 ∨ k = 10 then 30 else 31
/-- The table lies where it was laid. -/
def LenTab (w : World) : Prop := ∀ k : Nat, k < 12 → w.cell? ⟨1, k, none⟩ = some (.int .i64 (ltab k))
theorem LenTab.below {w w' : World} (h : LenTab w) (hb : Below w.heap.size w w') : LenTab w' := by
  intro k hk
  rw [hb.cell (p := ⟨1, k, none⟩) (World.block_lt_of_cell? _ _ (h k hk))]
  exact h k hk
def isLeap (y : Int) : Bool := decide (y % 4 = 0 ∧ (y % 100 ≠ 0 ∨ y % 400 = 0))
theorem mlen_two (y : Int) : mlen y 2 = if isLeap y then 29 else 28 := by
  unfold mlen lpy isLeap
  by_cases h : y % 4 = 0 ∧ (y % 100 ≠ 0 ∨ y % 400 = 0)
  · simp [h]
  · simp [h]
theorem mlen_tab (y : Int) (k : Nat) (h : k < 12) (h2 : k ≠ 1) : mlen y (k + 1) = ltab k := by
  unfold mlen ltab
  rw [if_neg (by omega), if_neg h2]
  by_cases c : k = 3 ∨ k = 5 ∨ k = 8 ∨ k = 10
  · rw [if_pos c, if_pos (by omega)]
  · rw [if_neg c, if_neg (by omega)]
set_option maxHeartbeats 1000000 in
theorem leap_any (y : Int) (w : World) (h0 : 0 ≤ y) (h1 : y ≤ 10000) :
    Calls Tryz.prog 137 #[.int .i64 y] w fun e w' => e = .returned (.bool (isLeap y)) ∧ w' = w := by
  by_cases c1 : y % 4 = 0
  · by_cases c2 : y % 100 = 0
    · by_cases c3 : y % 400 = 0
      · go_enter Tryz.func137, Tryz.ntmps137
        go_wp2
        go_ret
        exact ⟨dret_bool (by simp [isLeap, c1, c2, c3]), rfl⟩
      · go_enter Tryz.func137, Tryz.ntmps137
        go_wp2
        go_ret
        exact ⟨dret_bool (by simp [isLeap, c1, c2, c3]), rfl⟩
    · go_enter Tryz.func137, Tryz.ntmps137
      go_wp2
      go_ret
      exact ⟨dret_bool (by simp [isLeap, c1, c2]), rfl⟩
  · go_enter Tryz.func137, Tryz.ntmps137
    go_wp2
    go_ret
    exact ⟨dret_bool (by simp [isLeap, c1]), rfl⟩
set_option maxHeartbeats 1000000 in
theorem leaps_any (y : Int) (w : World) (h0 : 0 ≤ y) (h1 : y ≤ 10000) :
    Calls Tryz.prog 136 #[.int .i64 y] w fun e w' => e = .returned (.int .i64 (lps y)) ∧ w' = w := by
  have HS : Hid (y / 4 - y / 100 + y / 400 = lps y) := rfl
  go_enter Tryz.func136, Tryz.ntmps136
  go_wp2
  go_ret
  exact ⟨dret_int HS.out, rfl⟩
set_option maxHeartbeats 1000000 in
theorem length_any (y : Int) (k : Nat) (w : World) (hl : LenTab w) (h0 : 0 ≤ y) (h1 : y ≤ 10000) (hk : k < 12) :
    Calls Tryz.prog 101 #[.int .i64 y, .int .i64 (k + 1)] w fun e w' => e = .returned (.int .i64 (mlen y (k + 1))) ∧ w' = w := by
  have hc := hl k hk
  have HT : Hid (k ≠ 1 → mlen y (k + 1) = ltab k) := mlen_tab y k hk
  have H2 : Hid (mlen y 2 = if isLeap y then 29 else 28) := mlen_two y
  clear hl
  by_cases c : k = 1
  · subst c
    rw [show ltab 1 = 28 from rfl] at hc
    rcases hp : isLeap y
    · have hl := leap_any y
      rw [hp] at hl H2
      go_enter Tryz.func101, Tryz.ntmps101
      go_wp2_with (go_at_call 137; refine (hl _ h0 h1).mono ?_; rintro e w' ⟨rfl, hw⟩; subst w')
      go_ret
      exact ⟨dret_int H2.out.symm, rfl⟩
    · have hl := leap_any y
      rw [hp] at hl H2
      go_enter Tryz.func101, Tryz.ntmps101
      go_wp2_with (go_at_call 137; refine (hl _ h0 h1).mono ?_; rintro e w' ⟨rfl, hw⟩; subst w')
      go_ret
      exact ⟨dret_int H2.out.symm, rfl⟩
  · go_enter Tryz.func101, Tryz.ntmps101
    go_wp2
    go_ret
    exact ⟨dret_int (HT.out c).symm, rfl⟩
theorem lps_bd (y : Int) (h0 : 0 ≤ y) (h1 : y ≤ 10000) : 0 ≤ lps y ∧ lps y ≤ 2500 := by unfold lps; omega
theorem lps_1899 : lps 1899 = 460 := by decide
theorem cumN_step (y : Int) (k : Nat) : cumN y (k + 1) = cumN y k + mlen y (k + 1) := rfl
theorem yfd_bd (y : Int) (h0 : 1900 ≤ y) (h1 : y ≤ 9000) : 0 ≤ yfd y ∧ yfd y ≤ 3000000 := by
  have := yfd_low h0; omega
set_option maxHeartbeats 1000000 in
theorem firstOf_any (y : Int) (k : Nat) (w : World) (hl : LenTab w) (h0 : 1900 ≤ y) (h1 : y ≤ 9000) (hk : k < 12) :
    Calls Tryz.prog 100 #[.int .i64 y, .int .i64 (k + 1)] w fun e w' => e = .returned (.int .i64 (yfd y + cumN y k)) ∧ w' = w := by
  have HL : Hid (LenTab w) := hl
  have hb := lps_bd (y - 1) (by omega) (by omega)
  have HY : Hid ((y - 1900) * 365 + lps (y - 1) - 460 = yfd y) := rfl
  have hl2 := leaps_any 1899
  rw [lps_1899] at hl2
  have hyb := yfd_bd y h0 h1
  clear hl
  go_enter Tryz.func100, Tryz.ntmps100
  go_wp2_with fail
  refine (leaps_any (y - 1) _ (by omega) (by omega)).mono ?_
  rintro e w' ⟨rfl, hw⟩
  subst w'
  go_wp2_with fail
  refine (hl2 _ (by omega) (by omega)).mono ?_
  rintro e w' ⟨rfl, hw⟩
  subst w'
  clear hl2
  go_wp2
  rw [HY.out]
  clear HY hb
  go_loop [5, 6] (fun n i => ∃ j : Nat, j ≤ k ∧ i = .int .i64 (j + 1) ∧ n = .int .i64 (yfd y + cumN y j)) (fun _ i => k + 1 - (intOf i).toNat)
  case atStart => exact ⟨0, Nat.zero_le _, rfl, by simp [cumN]⟩
  case round =>
    obtain ⟨j, hj, rfl, rfl⟩ := hrel
    have hcb := cumN_nn y j
    by_cases hlt : j < k
    · have hm := mlen_bd y (j + 1)
      have HS : Hid (cumN y (j + 1) = cumN y j + mlen y (j + 1)) := rfl
      go_wp2_with fail
      refine (length_any y j _ HL.out (by omega) (by omega) (by omega)).mono ?_
      rintro e w' ⟨rfl, hw⟩
      subst w'
      go_wp2
      go_round
      case rel => exact ⟨j + 1, by omega, by go_num, by rw [HS.out]; go_num⟩
      case measure => simp [intOf]; omega
    · obtain rfl : j = k := by omega
      go_wp2
      go_ret
      exact ⟨rfl, rfl⟩
end Go.Proofs.YtmldaiofghpfdaaGreatDoor
