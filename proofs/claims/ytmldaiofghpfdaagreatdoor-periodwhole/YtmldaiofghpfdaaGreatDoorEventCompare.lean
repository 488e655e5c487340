/- The walks of cmp.isNaN, cmp.Compare, cmp.Or at numbers, and of event.Compare. -/
import Derived.Test.YtmldaiofghpfdaaGreatDoorEventRight
namespace Go.Proofs.YtmldaiofghpfdaaGreatDoor
open Go.RowKit
def cmpI (x y : Int) : Int := if x < y then -1 else if y < x then 1 else 0
def orI (x y z : Int) : Int := if x = 0 then (if y = 0 then z else y) else x
/-- The order of events. -/
def cmpE (a b : Ev) : Int := orI (cmpI a.day b.day) (cmpI a.kind b.kind) (cmpI a.id b.id)
theorem nan_any (x : Int) (w : World) : Calls Tryz.prog 112 #[.int .i64 x] w fun e w' => e = .returned (.bool false) ∧ w' = w := by
  go_enter Tryz.func112, Tryz.ntmps112
  go_wp2
  go_ret
  exact ⟨rfl, rfl⟩
theorem cmp_any (x y : Int) (w : World) : Calls Tryz.prog 81 #[.int .i64 x, .int .i64 y] w fun e w' => e = .returned (.int .i64 (cmpI x y)) ∧ w' = w := by
  by_cases h1 : x < y
  · have e : cmpI x y = -1 := by unfold cmpI; rw [if_pos h1]
    rw [e]
    clear e
    go_enter Tryz.func81, Tryz.ntmps81
    go_wp2_with (go_at_call 112; refine (nan_any _ _).mono ?_; rintro e w' ⟨rfl, rfl⟩)
    go_ret
    exact ⟨rfl, rfl⟩
  · by_cases h2 : y < x
    · have e : cmpI x y = 1 := by unfold cmpI; rw [if_neg h1, if_pos h2]
      rw [e]
      clear e
      go_enter Tryz.func81, Tryz.ntmps81
      go_wp2_with (go_at_call 112; refine (nan_any _ _).mono ?_; rintro e w' ⟨rfl, rfl⟩)
      go_ret
      exact ⟨rfl, rfl⟩
    · have e : cmpI x y = 0 := by unfold cmpI; rw [if_neg h1, if_neg h2]
      rw [e]
      clear e
      go_enter Tryz.func81, Tryz.ntmps81
      go_wp2_with (go_at_call 112; refine (nan_any _ _).mono ?_; rintro e w' ⟨rfl, rfl⟩)
      go_ret
      exact ⟨rfl, rfl⟩
set_option maxHeartbeats 1000000 in
theorem or_any (x y z : Int) (b : Nat) (w : World) (hx : w.cell? ⟨b, 0, none⟩ = some (.int .i64 x)) (hy : w.cell? ⟨b, 1, none⟩ = some (.int .i64 y)) (hz : w.cell? ⟨b, 2, none⟩ = some (.int .i64 z)) :
    Calls Tryz.prog 80 #[.slice (some ⟨b, 0, none⟩) 3 3] w fun e w' => e = .returned (.int .i64 (orI x y z)) ∧ w' = w := by
  by_cases h1 : x = 0
  · by_cases h2 : y = 0
    · by_cases h3 : z = 0
      · have e : orI x y z = 0 := by unfold orI; rw [if_pos h1, if_pos h2]; exact h3
        rw [e]
        subst h1 h2 h3
        clear e
        go_enter Tryz.func80, Tryz.ntmps80
        go_wp2
        refine wp_loop_rounds 4 ?_
        rw [rounds_succ]
        go_wp2
        rw [rounds_succ]
        go_wp2
        rw [rounds_succ]
        go_wp2
        rw [rounds_succ]
        go_wp2
        go_ret
        exact ⟨rfl, rfl⟩
      · have e : orI x y z = z := by unfold orI; rw [if_pos h1, if_pos h2]
        rw [e]
        subst h1 h2
        clear e
        go_enter Tryz.func80, Tryz.ntmps80
        go_wp2
        refine wp_loop_rounds 3 ?_
        rw [rounds_succ]
        go_wp2
        rw [rounds_succ]
        go_wp2
        rw [rounds_succ]
        go_wp2
        go_ret
        exact ⟨rfl, rfl⟩
    · have e : orI x y z = y := by unfold orI; rw [if_pos h1, if_neg h2]
      rw [e]
      subst h1
      clear e
      go_enter Tryz.func80, Tryz.ntmps80
      go_wp2
      refine wp_loop_rounds 2 ?_
      rw [rounds_succ]
      go_wp2
      rw [rounds_succ]
      go_wp2
      go_ret
      exact ⟨rfl, rfl⟩
  · have e : orI x y z = x := by unfold orI; rw [if_neg h1]
    rw [e]
    clear e
    go_enter Tryz.func80, Tryz.ntmps80
    go_wp2
    refine wp_loop_rounds 1 ?_
    rw [rounds_succ]
    go_wp2
    go_ret
    exact ⟨rfl, rfl⟩
set_option maxHeartbeats 4000000 in
theorem compare_any (a b : Ev) (w : World) :
    Calls Tryz.prog 55 #[evV a, evV b] w fun e w' => e = .returned (.int .i64 (cmpE a b)) ∧ Below w.heap.size w w' := by
  obtain ⟨id, item, kind, qty, price, ofI, day⟩ := a
  obtain ⟨id2, item2, kind2, qty2, price2, ofI2, day2⟩ := b
  have HC : Hid (cmpE ⟨id, item, kind, qty, price, ofI, day⟩ ⟨id2, item2, kind2, qty2, price2, ofI2, day2⟩ = orI (cmpI day day2) (cmpI kind kind2) (cmpI id id2)) := rfl
  rw [HC.out]
  clear HC
  unfold evV
  simp only
  have hU := up_ne
  go_enter Tryz.func55, Tryz.ntmps55
  go_wp2_with fail
  refine wp_region_mix [(true, 0), (true, 1), (true, 2), (true, 3), (true, 5), (true, 6), (true, 7), (true, 8), (true, 10), (true, 11), (true, 12), (true, 13), (false, 4), (false, 9), (false, 14), (false, 15), (false, 16), (true, 17)] (by kernel_rfl) (by kernel_rfl) ?_
  obtain ⟨W0, hW⟩ : ∃ W, W = ((w.alloc (.cells #[.int .i64 id, .string item, .int .i64 kind, .int .i64 qty, .int .i64 price, .int .i64 ofI, .int .i64 day] 44)).alloc (.cells #[.int .i64 id2, .string item2, .int .i64 kind2, .int .i64 qty2, .int .i64 price2, .int .i64 ofI2, .int .i64 day2] 44)).drew := ⟨_, rfl⟩
  rw [← hW]
  have hE : EvAt W0 w.heap.size ⟨id, item, kind, qty, price, ofI, day⟩ := by
    rw [hW]; constructor <;> simp
  have hF : EvAt W0 (w.heap.size + 1) ⟨id2, item2, kind2, qty2, price2, ofI2, day2⟩ := by
    rw [hW]; constructor <;> simp
  have hB0 : Below w.heap.size w W0 := by rw [hW]; exact (((Below.refl _ _).alloc (Nat.le_refl _) _).alloc (by simp) _).trans ((below_drew _).mono (by simp; omega))
  clear hW
  have f0 := fun n : Up W0 => (hE.up n).c0
  have f2 := fun n : Up W0 => (hE.up n).c2
  have f6 := fun n : Up W0 => (hE.up n).c6
  have g0 := fun n : Up W0 => (hF.up n).c0
  have g2 := fun n : Up W0 => (hF.up n).c2
  have g6 := fun n : Up W0 => (hF.up n).c6
  repeat (refine mix_q rfl ?_; go_big_quiet_step (fail); refine wpQuiet_nil ?_)
  refine mix_n rfl ?_
  go_wp2_with fail
  refine (cmp_any day day2 _).mono ?_
  rintro e w' ⟨rfl, hw⟩
  subst w'
  go_wp2_with fail
  refine ⟨rfl, Below.refl _ _, ?_⟩
  refine mix_n rfl ?_
  go_wp2_with fail
  refine (cmp_any kind kind2 _).mono ?_
  rintro e w' ⟨rfl, hw⟩
  subst w'
  go_wp2_with fail
  refine ⟨rfl, Below.refl _ _, ?_⟩
  refine mix_n rfl ?_
  go_wp2_with fail
  refine (cmp_any id id2 _).mono ?_
  rintro e w' ⟨rfl, hw⟩
  subst w'
  go_wp2_with fail
  refine ⟨rfl, Below.refl _ _, ?_⟩
  refine mix_n rfl ?_
  go_wp2_with fail
  refine ⟨rfl, (Below.refl _ _).alloc (Nat.le_refl _) _, ?_⟩
  refine mix_n rfl ?_
  go_wp2_with fail
  refine (or_any (cmpI day day2) (cmpI kind kind2) (cmpI id id2) W0.heap.size _ (by simp) (by simp) (by simp)).mono ?_
  rintro e w' ⟨rfl, hw⟩
  subst w'
  go_wp2_with fail
  refine ⟨rfl, Below.refl _ _, ?_⟩
  repeat (refine mix_q rfl ?_; go_big_quiet_step (fail); refine wpQuiet_nil ?_)
  refine mix_nil ?_
  go_wp2
  go_ret
  exact ⟨rfl, hB0.alloc (by have := hB0.size; omega) _⟩
end Go.Proofs.YtmldaiofghpfdaaGreatDoor
