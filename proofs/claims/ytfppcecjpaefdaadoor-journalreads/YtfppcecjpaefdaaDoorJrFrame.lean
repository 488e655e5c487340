/- The walk of journal.Frame. -/
import Derived.Test.YtfppcecjpaefdaaDoorJrNum
namespace Go.Proofs.YtfppcecjpaefdaaDoor
open Go.RowKit
set_option maxHeartbeats 2000000 in
theorem jframe_ok (n : Nat) (t : ByteArray) (w : World) (hn : n ≤ 100000) (ht : t.size ≤ 200) :
    Calls Tryd.prog 5 #[.int .i64 n, .string t] w fun e w' => e = .returned (.tuple #[.string (ba (frameL n t.data.toList)), .nilIface]) ∧ Below w.heap.size w w' := by
  obtain ⟨l, rfl⟩ : ∃ l, t = ba l := ⟨_, (ba_of t).symm⟩
  rw [ba_data]
  have hl : l.length = (ba l).size := (ba_size l).symm
  have N1 := fun w => number_any l.length w (by omega)
  have N2 := fun w => number_any n w (by omega)
  have S1 := fun w => jsum_any (ba (headL n l)) w (by rw [ba_size, head_len]; omega)
  have S2 := fun w => jsum_any (ba (bodyL n l)) w (by rw [ba_size, body_len]; omega)
  rw [ba_data] at S1 S2
  have N3 := fun w => number_any (sumL (headL n l)) w (sumL_lt _)
  have N4 := fun w => number_any (sumL (bodyL n l)) w (sumL_lt _)
  have HA : Hid (ba (fourL l.length) ++ ba (fourL n) = ba (headL n l)) := ba_app _ _
  have HB : Hid (ba (headL n l) ++ ba (fourL (sumL (headL n l))) = ba (headL n l ++ fourL (sumL (headL n l)))) := ba_app _ _
  have HC : Hid (ba (headL n l ++ fourL (sumL (headL n l))) ++ ba l = ba (bodyL n l)) := ba_app _ _
  have HD : Hid (ba (bodyL n l) ++ ba (fourL (sumL (bodyL n l))) = ba (frameL n l)) := ba_app _ _
  have z1 : (ba (fourL l.length)).size = 4 := by rw [ba_size]; rfl
  have z2 : (ba (fourL n)).size = 4 := by rw [ba_size]; rfl
  have z3 : (ba (headL n l)).size = 8 := by rw [ba_size]; rfl
  have z4 : (ba (fourL (sumL (headL n l)))).size = 4 := by rw [ba_size]; rfl
  have z5 : (ba (headL n l ++ fourL (sumL (headL n l)))).size = 12 := by rw [ba_size]; rfl
  have z6 : (ba (bodyL n l)).size = 12 + (ba l).size := by rw [ba_size, body_len, ba_size]
  have z7 : (ba (fourL (sumL (bodyL n l)))).size = 4 := by rw [ba_size]; rfl
  rw [hl] at N1 HA z1
  go_enter Tryd.func5, Tryd.ntmps5
  clear hl
  go_wp2_with fail
  refine (N1 _).mono ?_; rintro e w1 ⟨rfl, hb1⟩
  go_wp2_with fail
  refine (N2 _).mono ?_; rintro e w2 ⟨rfl, hb2⟩
  have A1 := HA.out
  go_wp2_with fail
  clear A1
  refine (S1 _).mono ?_; rintro e w3 ⟨rfl, rfl⟩
  go_wp2_with fail
  refine (N3 _).mono ?_; rintro e w4 ⟨rfl, hb4⟩
  have B1 := HB.out
  have C1 := HC.out
  go_wp2_with fail
  clear B1 C1
  refine (S2 _).mono ?_; rintro e w5 ⟨rfl, rfl⟩
  go_wp2_with fail
  refine (N4 _).mono ?_; rintro e w6 ⟨rfl, hb6⟩
  have D1 := HD.out
  go_wp2
  go_ret2
  have h12 := hb1.trans (hb2.mono hb1.size)
  have h14 := h12.trans (hb4.mono h12.size)
  exact ⟨rfl, h14.trans (hb6.mono h14.size)⟩
set_option maxHeartbeats 2000000 in
theorem jframe_long (n : Int) (t : ByteArray) (w : World) (hz : t.size ≤ maxLen) (ht : 200 < t.size) :
    Calls Tryd.prog 5 #[.int .i64 n, .string t] w fun e w' => e = .returned (.tuple #[.string (ba []), .iface 22 (.int .i64 4)]) ∧ Below w.heap.size w w' := by
  unfold maxLen at hz
  go_enter Tryd.func5, Tryd.ntmps5
  go_wp2
  go_ret2
  exact ⟨rfl, Below.refl _ _⟩
set_option maxHeartbeats 2000000 in
theorem jframe_arg (n : Int) (t : ByteArray) (w : World) (ht : t.size ≤ 200) (hn : n < 0 ∨ 100000 < n) :
    Calls Tryd.prog 5 #[.int .i64 n, .string t] w fun e w' => e = .returned (.tuple #[.string (ba []), .iface 22 (.int .i64 1)]) ∧ Below w.heap.size w w' := by
  rcases hn with hn | hn
  all_goals
    go_enter Tryd.func5, Tryd.ntmps5
    go_wp2
    go_ret2
    exact ⟨rfl, Below.refl _ _⟩
end Go.Proofs.YtfppcecjpaefdaaDoor
