/- strings.Clone. -/
import Derived.Test.YtfppcecjpaefdaaDoorJrPre
import Derived.Test.YtfppcecjpaefdaaDoorShC
namespace Go.Proofs.YtfppcecjpaefdaaDoor
open Go.RowKit
set_option maxHeartbeats 1000000 in
theorem clone_txt (s : ByteArray) (w : World) (hs : s.size ≤ 1000000) :
    Calls Tryd.prog 19 #[.string s] w fun e w' => e = .returned (.string s) ∧ Below w.heap.size w w' := by
  have HC := fun w => Tryd.stringslite_Clone s w (by omega)
  go_enter Tryd.func19, Tryd.ntmps19
  go_wp2_with fail
  refine (HC _).mono ?_
  rintro e w1 ⟨rfl, hb⟩
  go_wp2
  go_ret
  exact ⟨rfl, hb⟩
end Go.Proofs.YtfppcecjpaefdaaDoor
