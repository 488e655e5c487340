/- The walk of tallymanref.in. -/
import Derived.Test.YtfppcecjpaefdaaDoorBase
namespace Go.Proofs.YtfppcecjpaefdaaDoor
open Go.RowKit
theorem in_yes (n l h : Int) (w : World) (h1 : l ≤ n) (h2 : n ≤ h) : Calls Tryd.prog 12 #[.int .i64 n, .int .i64 l, .int .i64 h] w fun e w' => e = .returned (.bool true) ∧ w' = w := by
  go_enter Tryd.func12, Tryd.ntmps12
  go_wp2
  go_ret
  exact ⟨congrArg (fun x => Ending.returned (.bool x)) (by simp [*]), rfl⟩
theorem in_no (n l h : Int) (w : World) (h1 : n < l ∨ h < n) : Calls Tryd.prog 12 #[.int .i64 n, .int .i64 l, .int .i64 h] w fun e w' => e = .returned (.bool false) ∧ w' = w := by
  by_cases c : l ≤ n
  · have c2 : h < n := by omega
    go_enter Tryd.func12, Tryd.ntmps12
    go_wp2
    go_ret
    refine ⟨?_, rfl⟩
    have : decide (n ≤ h) = false := decide_eq_false (by omega)
    simp [this]
  · go_enter Tryd.func12, Tryd.ntmps12
    go_wp2
    go_ret
    refine ⟨?_, rfl⟩
    simp; try omega
end Go.Proofs.YtfppcecjpaefdaaDoor
