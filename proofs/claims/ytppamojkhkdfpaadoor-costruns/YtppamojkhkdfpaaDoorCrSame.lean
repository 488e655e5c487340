/- The walk of tallymanlaw.sameLayers. -/
import Derived.Test.YtppamojkhkdfpaaDoorBnM
import Derived.Test.YtppamojkhkdfpaaDoorBnJ
namespace Go.Proofs.YtppamojkhkdfpaaDoor
open Go.RowKit Go.Maps
set_option maxHeartbeats 1000000 in
theorem sameLay_any (ys : List Lay) (v1 v2 : Value) (w : World) (h1 : LayAt w v1 ys) (h2 : LayAt w v2 ys) (hl : ys.length ≤ 1000000) :
    Calls Tryd.prog 9 #[v1, v2] w fun r w' => r = .returned (.bool true) ∧ ∃ m, w' = w.drewN m := by
  have H1 : Hid (LayAt w v1 ys) := h1
  have H2 : Hid (LayAt w v2 ys) := h2
  clear h1 h2
  obtain ⟨ad2, n2, cp2, e2⟩ := H2.out.slice
  subst e2
  have hn2 := H2.out.nilOf
  subst hn2
  rcases H1.out.form with ⟨rfl, rfl⟩ | ⟨g, o, cap, rfl, hg, hc1, hc2⟩
  · go_enter Tryd.func9, Tryd.ntmps9
    go_wp2
    refine wp_loop_rounds 1 ?_
    rw [rounds_succ]
    go_wp2
    go_ret
    exact ⟨rfl, 0, rfl⟩
  · go_enter Tryd.func9, Tryd.ntmps9
    go_wp2
    go_loopw [5] (fun i wr => ∃ k : Nat, k ≤ ys.length ∧ i = .int .i64 k ∧ ∃ m, wr = w.drewN m) (fun i _ => ys.length - (intOf i).toNat)
    case atStart => exact ⟨0, Nat.zero_le _, rfl, 0, rfl⟩
    case round =>
      obtain ⟨k, hk, rfl, m0, hwr⟩ := hrel
      have hb : Below w.heap.size w wr := by rw [hwr]; exact ⟨rfl, rfl, rfl, Nat.le_refl _, fun _ _ => rfl⟩
      have HWR : Hid (wr = w.drewN m0) := hwr
      clear hwr
      by_cases hlt : k < ys.length
      · rcases H2.out.form with ⟨a1, a2⟩ | ⟨g2, o2, c2, e2, hg2, _, _⟩
        · rw [a2] at hlt; exact absurd hlt (Nat.not_lt_zero _)
        · simp only [Value.slice.injEq] at e2
          obtain ⟨rfl, _, rfl⟩ := e2
          have p := fun j hj => ((H1.out.below hb).cell k j hlt hj).1
          have q := fun j hj => ((H2.out.below hb).cell k j hlt hj).1
          have p0 := p 0 (by omega)
          have p1 := p 1 (by omega)
          have p2 := p 2 (by omega)
          have q0 := q 0 (by omega)
          have q1 := q 1 (by omega)
          have q2 := q 2 (by omega)
          clear p q
          generalize ys[k] = y at p0 p1 p2 q0 q1 q2
          obtain ⟨id, qty, val⟩ := y
          simp only [layC, List.getElem?_cons_zero, List.getElem?_cons_succ, Nat.add_zero] at p0 p1 p2 q0 q1 q2
          have hne := neq_layR id qty val
          have mixed := csP.mixed
          go_wp2_with fail
          go_quiet (fail)
          go_wp2
          go_roundw
          case rel => exact ⟨k + 1, by omega, by go_num, m0 + nq, by rw [HWR.out, World.drewN_drewN]⟩
          case measure => simp [intOf]; omega
      · obtain rfl : k = ys.length := by omega
        go_wp2
        go_ret
        exact ⟨rfl, m0, HWR.out⟩
end Go.Proofs.YtppamojkhkdfpaaDoor
