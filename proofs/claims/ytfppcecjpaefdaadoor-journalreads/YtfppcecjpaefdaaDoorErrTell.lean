/- The walk of api.Tell, at no error and at a bare Errno. -/
import Derived.Test.YtfppcecjpaefdaaDoorErrAs
namespace Go.Proofs.YtfppcecjpaefdaaDoor
open Go.RowKit
set_option maxHeartbeats 1000000 in
theorem tell_nil (w : World) : Calls Tryd.prog 23 #[.nilIface] w fun e w' => e = .returned (.int .i64 0) ∧ w' = w := by
  go_enter Tryd.func23, Tryd.ntmps23
  go_wp2
  go_ret
  exact ⟨rfl, rfl⟩
set_option maxHeartbeats 1000000 in
theorem tell_errno (k : Int) (w : World) (hg : ErrType w) : Calls Tryd.prog 23 #[.iface 22 (.int .i64 k)] w fun e w' => e = .returned (.int .i64 k) ∧ Below w.heap.size w w' := by
  have HG : Hid (ErrType (w.alloc (.cells #[.int .i64 0] 22))) := hg.below ((Below.refl _ _).alloc (Nat.le_refl _) _)
  clear hg
  go_enter Tryd.func23, Tryd.ntmps23
  go_wp2_with fail
  refine (as_errno k ⟨w.heap.size, 0, none⟩ (.int .i64 0) _ HG.out (by simp) (by simp)).mono ?_
  rintro e w' ⟨rfl, rfl⟩
  go_wp2
  go_ret
  refine ⟨rfl, ?_⟩
  exact ((((((Below.refl _ _).alloc (Nat.le_refl _) _).alloc (by simp) _).alloc (by simp; omega) _).alloc (by simp; omega) _).alloc (by simp; omega) _)
end Go.Proofs.YtfppcecjpaefdaaDoor
