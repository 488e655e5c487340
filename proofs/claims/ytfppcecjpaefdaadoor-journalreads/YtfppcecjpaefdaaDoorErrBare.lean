/- The walks of api.Tell, plain.Place, tallymanref.Bare, tallymanlaw.is and tallymanlaw.bare, at no error and at a bare Errno. -/
import Derived.Test.YtfppcecjpaefdaaDoorErrTell
namespace Go.Proofs.YtfppcecjpaefdaaDoor
open Go.RowKit
theorem Tryd.noUnwrap (v : Value) (xT : TypeId) (w : World) : (Instr.typeAssert (.iface 22 v) xT 56 true).run Tryd.prog w = .ok (.tuple #[.nilIface, .bool false]) w := run_typeAssert_lacksB Tryd.underlying56 (by kernel_rfl) (by kernel_rfl) v xT w
theorem Tryd.noAt (k : Int) (xT : TypeId) (w : World) : (Instr.typeAssert (.iface 22 (.int .i64 k)) xT 53 true).run Tryd.prog w = .ok (.tuple #[.pointer none, .bool false]) w := by kernel_rfl
set_option maxHeartbeats 1000000 in
theorem place_nil (w : World) : Calls Tryd.prog 20 #[.nilIface] w fun e w' => e = .returned (.tuple #[.int .i64 0, .int .i64 (-1)]) ∧ w' = w := by
  go_enter Tryd.func20, Tryd.ntmps20
  go_wp2_with (go_at_call 23; refine (tell_nil _).mono ?_; rintro e w' ⟨rfl, hw⟩; subst w')
  refine wp_loop_rounds 1 ?_
  rw [rounds_succ]
  go_wp2
  go_ret2
  exact ⟨rfl, rfl⟩
set_option maxHeartbeats 1000000 in
theorem place_errno (k : Int) (w : World) (hg : ErrType w) : Calls Tryd.prog 20 #[.iface 22 (.int .i64 k)] w fun e w' => e = .returned (.tuple #[.int .i64 k, .int .i64 (-1)]) ∧ Below w.heap.size w w' := by
  have h1 := Tryd.noUnwrap
  have h2 := Tryd.noAt
  go_enter Tryd.func20, Tryd.ntmps20
  go_wp2_with (go_at_call 23; refine (tell_errno k _ hg).mono ?_; rintro e w1 ⟨rfl, hb⟩)
  refine wp_loop_rounds 1 ?_
  rw [rounds_succ]
  go_wp2
  go_ret2
  exact ⟨rfl, hb⟩
theorem fault_mk (k : Int) (w : World) : Calls Tryd.prog 16 #[.int .i64 k] w fun e w' => e = .returned (.agg #[.int .i64 k, .int .i64 (-1)]) ∧ w' = w.alloc (.cells #[.int .i64 k, .int .i64 (-1)] 41) := by
  go_enter Tryd.func16, Tryd.ntmps16
  go_wp2
  exact bodyPost_ret (v := .agg #[.int .i64 k, .int .i64 (-1)]) (by simp [results, Tryd.results16, go_sem]) rfl ⟨rfl, rfl⟩
theorem cells2_below {w w1 : World} {c : Array Value} {t : TypeId} (hb : Below (w.alloc (.cells c t)).heap.size (w.alloc (.cells c t)) w1) (j : Nat) : w1.cell? ⟨w.heap.size, j, none⟩ = (w.alloc (.cells c t)).cell? ⟨w.heap.size, j, none⟩ :=
  hb.cell (p := ⟨w.heap.size, j, none⟩) (by simp)
set_option maxHeartbeats 1000000 in
theorem is_nil (w : World) : Calls Tryd.prog 15 #[.nilIface, .agg #[.int .i64 0, .int .i64 (-1)]] w fun e w' => e = .returned (.bool true) ∧ Below w.heap.size w w' := by
  go_enter Tryd.func15, Tryd.ntmps15
  go_wp2_with (go_at_call 20; refine (place_nil _).mono ?_; rintro e w' ⟨rfl, hw⟩; subst w')
  go_ret
  exact ⟨rfl, (Below.refl _ _).alloc (Nat.le_refl _) _⟩
set_option maxHeartbeats 1000000 in
theorem is_errno (k : Int) (w : World) (hg : ErrType w) : Calls Tryd.prog 15 #[.iface 22 (.int .i64 k), .agg #[.int .i64 k, .int .i64 (-1)]] w fun e w' => e = .returned (.bool true) ∧ Below w.heap.size w w' := by
  have HG : Hid (ErrType (w.alloc (.cells #[.int .i64 k, .int .i64 (-1)] 41))) := hg.below ((Below.refl _ _).alloc (Nat.le_refl _) _)
  clear hg
  go_enter Tryd.func15, Tryd.ntmps15
  go_wp2_with (go_at_call 20; refine (place_errno k _ HG.out).mono ?_; rintro e w1 ⟨rfl, hb⟩; have c0 := cells2_below hb 0; have c1 := cells2_below hb 1; simp at c0 c1)
  go_ret
  exact ⟨rfl, ((Below.refl _ _).alloc (Nat.le_refl _) _).trans (hb.mono (by simp))⟩
/-- No error is no error; an Errno is that Errno, without a place. -/
theorem bare_nil (w : World) : Calls Tryd.prog 6 #[.nilIface, .int .i64 0] w fun e w' => e = .returned (.bool true) ∧ Below w.heap.size w w' := by
  go_enter Tryd.func6, Tryd.ntmps6
  go_wp2_with (first
    | (go_at_call 16; refine (fault_mk _ _).mono ?_; rintro e w' ⟨rfl, hw⟩; subst w')
    | (go_at_call 15; refine (is_nil _).mono ?_; rintro e w1 ⟨rfl, hb⟩))
  go_ret
  exact ⟨rfl, ((Below.refl _ _).alloc (Nat.le_refl _) _).trans (hb.mono (by simp))⟩
theorem bare_errno (k : Int) (w : World) (hg : ErrType w) : Calls Tryd.prog 6 #[.iface 22 (.int .i64 k), .int .i64 k] w fun e w' => e = .returned (.bool true) ∧ Below w.heap.size w w' := by
  have HG : Hid (ErrType (w.alloc (.cells #[.int .i64 k, .int .i64 (-1)] 41))) := hg.below ((Below.refl _ _).alloc (Nat.le_refl _) _)
  clear hg
  go_enter Tryd.func6, Tryd.ntmps6
  go_wp2_with (first
    | (go_at_call 16; refine (fault_mk _ _).mono ?_; rintro e w' ⟨rfl, hw⟩; subst w')
    | (go_at_call 15; refine (is_errno k _ HG.out).mono ?_; rintro e w1 ⟨rfl, hb⟩))
  go_ret
  exact ⟨rfl, ((Below.refl _ _).alloc (Nat.le_refl _) _).trans (hb.mono (by simp))⟩
end Go.Proofs.YtfppcecjpaefdaaDoor
