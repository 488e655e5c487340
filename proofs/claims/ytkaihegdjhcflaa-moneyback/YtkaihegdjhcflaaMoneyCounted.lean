/- The walk of tallymankeep.counted: the fact holds. -/
import Derived.Test.YtkaihegdjhcflaaMoneySpread
import Derived.Test.YtkaihegdjhcflaaMoneyEqual
import Derived.Test.YtkaihegdjhcflaaMoneyParse
import Derived.Test.YtkaihegdjhcflaaMoneyPick
namespace Go.Proofs.Ytkaihegdjhcflaa
open Go.RowKit
theorem spr_fact : spr 100 [1, 1, 1] = [33, 33, 34] := by decide
theorem amt_fact1 : byt (amt (-1205)) = [45, 49, 50, 46, 48, 53] := by
  have : wdN 12 = 2 := by rw [wdN_big 12 (by omega), wdN_small _ (by omega)]
  simp [byt, amt, amtSize, this, dg, dv]
theorem amt_fact2 : byt (amt 7) = [48, 46, 48, 55] := by
  have : wdN 0 = 1 := wdN_small _ (by omega)
  simp [byt, amt, amtSize, this, dg, dv]
theorem row3 (w : World) (a b c : Int) : Row (w.alloc (.cells #[.int .i64 a, .int .i64 b, .int .i64 c] 3)) (some ⟨w.heap.size, 0, none⟩) [a, b, c] := by
  refine .inr ⟨w.heap.size, 0, rfl, fun i hi => ?_⟩
  match i, hi with
  | 0, _ => simp
  | 1, _ => simp
  | 2, _ => simp
set_option maxHeartbeats 2000000 in
theorem counted_any (w : World) : Calls Try.prog 6 #[] w fun e w' => e = .returned (.bool true) ∧ Below w.heap.size w w' := by
  have f0 : shr 100 1 3 = 33 := by decide
  have f1 : ((strOfNums (amt (-1205))).toList == [45, 49, 50, 46, 48, 53]) = true := by rw [ByteArray.toList_eq]; show (byt (amt (-1205)) == _) = true; rw [amt_fact1]; rfl
  have f2 : ((strOfNums (amt 7)).toList == [48, 46, 48, 55]) = true := by rw [ByteArray.toList_eq]; show (byt (amt 7) == _) = true; rw [amt_fact2]; rfl
  go_enter Try.func6, Try.ntmps6
  go_wp2_with (first
    | (go_at_call 9; refine (part_ok 100 1 3 _ (by omega) (by omega) (by omega) (by omega) (by omega) (by omega)).mono ?_; rintro e w' ⟨rfl, n, rfl⟩)
    | (go_at_call 8; refine (spread_ok 100 _ 3 [1, 1, 1] _ (row3 _ 1 1 1) (by decide) (by omega) (by omega) (by decide)).mono ?_; rintro e w1 ⟨g, rfl, hrow, hb1⟩; rw [spr_fact] at hrow))
  have hb2 : Below w.heap.size w w1 := by
    refine Below.trans ?_ (hb1.mono (by simp))
    exact ((below_drewN (Below.refl _ _) n).alloc (by simp) _)
  refine (equal_same (some g) (some ⟨w1.heap.size, 0, none⟩) 3 3 [33, 33, 34] _ (hrow.below ((Below.refl _ _).alloc (Nat.le_refl _) _)) (row3 _ 33 33 34) (by decide)).mono ?_
  rintro e w2 ⟨rfl, n2, hw2⟩
  have hb3 : Below w.heap.size w w2 := by
    subst hw2; exact below_drewN (hb2.alloc hb2.size _) n2
  clear hw2 hb2 hb1 hrow
  go_wp2_with fail
  refine (print_any (-1205) _ (by omega) (by omega)).mono ?_
  rintro e w3 ⟨rfl, hb4⟩
  go_wp2_with fail
  refine (print_any 7 _ (by omega) (by omega)).mono ?_
  rintro e w4 ⟨rfl, hb5⟩
  go_wp2
  go_ret
  exact ⟨rfl, (hb3.trans (hb4.mono hb3.size)).trans (hb5.mono (Nat.le_trans hb3.size hb4.size))⟩
end Go.Proofs.Ytkaihegdjhcflaa
