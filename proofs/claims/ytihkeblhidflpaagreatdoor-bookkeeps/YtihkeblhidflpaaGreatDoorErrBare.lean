/- The walks of api.Tell, plain.Place, tallymanref.Bare, tallymanlaw.is and tallymanlaw.bare, at no error and at a bare Errno. -/
import Derived.Test.YtihkeblhidflpaaGreatDoorErrTell
namespace Go.Proofs.YtihkeblhidflpaaGreatDoor
open Go.RowKit
theorem Tryz.noUnwrap (v : Value) (xT : TypeId) (w : World) : (Instr.typeAssert (.iface 49 v) xT 115 true).run Tryz.prog w = .ok (.tuple #[.nilIface, .bool false]) w := run_typeAssert_lacksB Tryz.underlying115 (by kernel_rfl) (by kernel_rfl) v xT w
theorem Tryz.noAt (k : Int) (xT : TypeId) (w : World) : (Instr.typeAssert (.iface 49 (.int .i64 k)) xT 112 true).run Tryz.prog w = .ok (.tuple #[.pointer none, .bool false]) w := by kernel_rfl
set_option maxHeartbeats 1000000 in
theorem place_nil (w : World) : Calls Tryz.prog 42 #[.nilIface] w fun e w' => e = .returned (.tuple #[.int .i64 0, .int .i64 (-1)]) ∧ w' = w := by
  go_enter Tryz.func42, Tryz.ntmps42
  go_wp2_with (go_at_call 62; refine (tell_nil _).mono ?_; rintro e w' ⟨rfl, hw⟩; subst w')
  refine wp_loop_rounds 1 ?_
  rw [rounds_succ]
  go_wp2
  go_ret2
  exact ⟨rfl, rfl⟩
set_option maxHeartbeats 1000000 in
theorem place_errno (k : Int) (w : World) (hg : ErrType w) : Calls Tryz.prog 42 #[.iface 49 (.int .i64 k)] w fun e w' => e = .returned (.tuple #[.int .i64 k, .int .i64 (-1)]) ∧ Below w.heap.size w w' := by
  have h1 := Tryz.noUnwrap
  have h2 := Tryz.noAt
  go_enter Tryz.func42, Tryz.ntmps42
  go_wp2_with (go_at_call 62; refine (tell_errno k _ hg).mono ?_; rintro e w1 ⟨rfl, hb⟩)
  refine wp_loop_rounds 1 ?_
  rw [rounds_succ]
  go_wp2
  go_ret2
  exact ⟨rfl, hb⟩
theorem fault_mk (k : Int) (w : World) : Calls Tryz.prog 30 #[.int .i64 k] w fun e w' => e = .returned (.agg #[.int .i64 k, .int .i64 (-1)]) ∧ w' = w.alloc (.cells #[.int .i64 k, .int .i64 (-1)] 72) := by
  go_enter Tryz.func30, Tryz.ntmps30
  go_wp2
  exact bodyPost_ret (v := .agg #[.int .i64 k, .int .i64 (-1)]) (by simp [results, Tryz.results30, go_sem]) rfl ⟨rfl, rfl⟩
theorem cells2_below {w w1 : World} {c : Array Value} {t : TypeId} (hb : Below (w.alloc (.cells c t)).heap.size (w.alloc (.cells c t)) w1) (j : Nat) : w1.cell? ⟨w.heap.size, j, none⟩ = (w.alloc (.cells c t)).cell? ⟨w.heap.size, j, none⟩ :=
  hb.cell (p := ⟨w.heap.size, j, none⟩) (by simp)
set_option maxHeartbeats 1000000 in
theorem is_nil (w : World) : Calls Tryz.prog 29 #[.nilIface, .agg #[.int .i64 0, .int .i64 (-1)]] w fun e w' => e = .returned (.bool true) ∧ Below w.heap.size w w' := by
  go_enter Tryz.func29, Tryz.ntmps29
  go_wp2_with (go_at_call 42; refine (place_nil _).mono ?_; rintro e w' ⟨rfl, hw⟩; subst w')
  go_ret
  exact ⟨rfl, (Below.refl _ _).alloc (Nat.le_refl _) _⟩
set_option maxHeartbeats 1000000 in
theorem is_errno (k : Int) (w : World) (hg : ErrType w) : Calls Tryz.prog 29 #[.iface 49 (.int .i64 k), .agg #[.int .i64 k, .int .i64 (-1)]] w fun e w' => e = .returned (.bool true) ∧ Below w.heap.size w w' := by
  have HG : Hid (ErrType (w.alloc (.cells #[.int .i64 k, .int .i64 (-1)] 72))) := hg.below ((Below.refl _ _).alloc (Nat.le_refl _) _)
  clear hg
  go_enter Tryz.func29, Tryz.ntmps29
  go_wp2_with (go_at_call 42; refine (place_errno k _ HG.out).mono ?_; rintro e w1 ⟨rfl, hb⟩; have c0 := cells2_below hb 0; have c1 := cells2_below hb 1; simp at c0 c1)
  go_ret
  exact ⟨rfl, ((Below.refl _ _).alloc (Nat.le_refl _) _).trans (hb.mono (by simp))⟩
/-- No error is no error; an Errno is that Errno, without a place. -/
theorem bare_nil (w : World) : Calls Tryz.prog 14 #[.nilIface, .int .i64 0] w fun e w' => e = .returned (.bool true) ∧ Below w.heap.size w w' := by
  go_enter Tryz.func14, Tryz.ntmps14
  go_wp2_with (first
    | (go_at_call 30; refine (fault_mk _ _).mono ?_; rintro e w' ⟨rfl, hw⟩; subst w')
    | (go_at_call 29; refine (is_nil _).mono ?_; rintro e w1 ⟨rfl, hb⟩))
  go_ret
  exact ⟨rfl, ((Below.refl _ _).alloc (Nat.le_refl _) _).trans (hb.mono (by simp))⟩
theorem bare_errno (k : Int) (w : World) (hg : ErrType w) : Calls Tryz.prog 14 #[.iface 49 (.int .i64 k), .int .i64 k] w fun e w' => e = .returned (.bool true) ∧ Below w.heap.size w w' := by
  have HG : Hid (ErrType (w.alloc (.cells #[.int .i64 k, .int .i64 (-1)] 72))) := hg.below ((Below.refl _ _).alloc (Nat.le_refl _) _)
  clear hg
  go_enter Tryz.func14, Tryz.ntmps14
  go_wp2_with (first
    | (go_at_call 30; refine (fault_mk _ _).mono ?_; rintro e w' ⟨rfl, hw⟩; subst w')
    | (go_at_call 29; refine (is_errno k _ HG.out).mono ?_; rintro e w1 ⟨rfl, hb⟩))
  go_ret
  exact ⟨rfl, ((Below.refl _ _).alloc (Nat.le_refl _) _).trans (hb.mono (by simp))⟩
end Go.Proofs.YtihkeblhidflpaaGreatDoor
