/- The walks of slices.Clone at events, slices.Equal at layers, and of tallymankeep.told. -/
import Derived.Test.YtmldaiofghpfdaaKpItems
import Derived.Laws.StructEq
namespace Go.Proofs.Ytmldaiofghpfdaa
open Go.RowKit Go.Maps
theorem nil_eq (w : World) : (binOp BinOp.eql 22 (.slice none 0 0) (.slice none 0 0)).run Try.prog w = .ok (.bool true) w := by kernel_rfl
theorem some_eq (a : Addr) (n c : Nat) (w : World) : (binOp BinOp.eql 22 (.slice (some a) n c) (.slice none 0 0)).run Try.prog w = .ok (.bool false) w := rfl
theorem neq_lay (a b c : Int) (w : World) : (binOp BinOp.neq 44 (.agg #[.int .i64 a, .int .i64 b, .int .i64 c]) (.agg #[.int .i64 a, .int .i64 b, .int .i64 c])).run Try.prog w = .ok (.bool false) w := by
  have hS : Try.prog.underlying 44 = some (.struct (Try.prog.fieldsOf 44)) := by kernel_rfl
  have hp : Try.prog.stoodInHeld 44 = false := by kernel_rfl
  have u3 := Try.underlying3
  have a3 := Try.isAgg3
  have z3 := Try.sizeOf3
  rw [run_neq_struct, show (10000 : Nat) = 9999 + 1 from rfl, run_equalIn_agg w 9999 44 _ _ hS hp]
  simp only [Program.fieldsOf, Try.underlying44]
  go_simp
set_option maxHeartbeats 1000000 in
theorem clone_any {B : Nat} (l : List Ev) (v : Value) (w : World) (h : w.ownsRow B 36 7 v l.length (l.flatMap evC)) (hl : l.length ≤ 1000) :
    Calls Try.prog 12 #[v] w fun r w' => ∃ v' : Value, r = .returned v' ∧ w'.ownsRow w.heap.size 36 7 v' l.length (l.flatMap evC) ∧ Below w.heap.size w w' := by
  obtain ⟨i0, hi, hz0, hz1, hz2⟩ := info_parts Try.infoEv
  rcases own_form h with ⟨hv, hn, _⟩ | ⟨g, cap, hv, _, hgl, _⟩
  · subst hv
    have hz : l = [] := List.length_eq_zero_iff.1 hn
    subst hz
    go_enter Try.func12, Try.ntmps12
    have hne := nil_eq
    go_wp2
    go_ret
    exact ⟨_, rfl, World.ownsRow_nil _ _ _ _, Below.refl _ _⟩
  · subst hv
    have hcs := h.cells (g := g) rfl
    have HCS : Hid (∀ j u, (l.flatMap evC)[j]? = some u → w.cell? ((⟨g, 0, none⟩ : Addr).add j) = some u) := hcs
    have hfl := flat_len evC 7 evC_len l
    clear h hcs
    have hE : (w.alloc (.cells #[] 36)).ownsRow w.heap.size 36 7 (.slice (some ⟨w.heap.size, 0, none⟩) 0 0) 0 [] :=
      ⟨rfl, Or.inr ⟨w.heap.size, 0, #[], rfl, Nat.le_refl _, heap_alloc_new w _, Nat.le_refl _, Nat.zero_le _, rfl, rfl⟩⟩
    have HE : Hid _ := hE
    clear hE
    go_enter Try.func12, Try.ntmps12
    have hne := some_eq
    go_wp2_with (first
      | (at_builtin; refine wpList_append_own _ rfl _ _ 22 rfl w.heap.size 36 i0 evZ 7 64 Try.underlying22 hi hz0 hz1 hz2 rfl (by decide) _ _ _ rfl HE.out ⟨g, 0, none⟩ l.length cap (l.flatMap evC) rfl (by rw [hfl]) ?d1 ?d2 ?d3 ?d4 ?d5 ?_)
      | go_in)
    case d1 =>
      intro j u hj
      have hadd : (⟨g, 0, none⟩ : Addr).add j = ⟨g, j, none⟩ := by unfold Addr.add; split <;> simp_all
      have := HCS.out j u hj
      rw [hadd] at this
      exact this
    case d2 =>
      intro u e _ he
      exact evC_one e u he
    case d3 => unfold maxLen; omega
    case d4 => omega
    intro v' w3 hown3 hgr _
    have HB3 : Hid (Below w.heap.size w w3) := ((Below.refl w.heap.size w).alloc (Nat.le_refl _) _).grown hgr (by simp) (fun j hj => by simp [Value.ownBlock] at hj; omega)
    clear hgr
    go_wp2
    go_ret
    exact ⟨_, rfl, hown3, HB3.out⟩
set_option maxHeartbeats 1000000 in
theorem eqLay_any (ys : List Lay) (v1 v2 : Value) (w : World) (h1 : LayAt w v1 ys) (h2 : LayAt w v2 ys) (hl : ys.length ≤ 1000000) :
    Calls Try.prog 13 #[v1, v2] w fun r w' => r = .returned (.bool true) ∧ ∃ m, w' = w.drewN m := by
  have H1 : Hid (LayAt w v1 ys) := h1
  have H2 : Hid (LayAt w v2 ys) := h2
  clear h1 h2
  obtain ⟨ad2, n2, cp2, e2⟩ := H2.out.slice
  subst e2
  have hn2 := H2.out.nilOf
  subst hn2
  rcases H1.out.form with ⟨rfl, rfl⟩ | ⟨g, o, cap, rfl, hg, hc1, hc2⟩
  · go_enter Try.func13, Try.ntmps13
    go_wp2
    refine wp_loop_rounds 1 ?_
    rw [rounds_succ]
    go_wp2
    go_ret
    exact ⟨rfl, 0, rfl⟩
  · go_enter Try.func13, Try.ntmps13
    go_wp2
    go_loopw [13] (fun i wr => ∃ k : Nat, k ≤ ys.length ∧ i = .int .i64 k ∧ ∃ m, wr = w.drewN m) (fun i _ => ys.length - (intOf i).toNat)
    case atStart => exact ⟨0, Nat.zero_le _, rfl, 0, rfl⟩
    case round =>
      obtain ⟨k, hk, rfl, m0, hwr⟩ := hrel
      have hb : Below w.heap.size w wr := by rw [hwr]; exact ⟨rfl, rfl, rfl, Nat.le_refl _, fun _ _ => rfl⟩
      have HWR : Hid (wr = w.drewN m0) := hwr
      clear hwr
      by_cases hlt : k < ys.length
      · rcases H2.out.form with ⟨a1, a2⟩ | ⟨g2, o2, c2, e2, hg2, _, _⟩
        · rw [a2] at hlt; exact absurd hlt (Nat.not_lt_zero _)
        · simp only [Value.slice.injEq] at e2
          obtain ⟨rfl, _, rfl⟩ := e2
          have p := fun j hj => ((H1.out.below hb).cell k j hlt hj).1
          have q := fun j hj => ((H2.out.below hb).cell k j hlt hj).1
          have p0 := p 0 (by omega)
          have p1 := p 1 (by omega)
          have p2 := p 2 (by omega)
          have q0 := q 0 (by omega)
          have q1 := q 1 (by omega)
          have q2 := q 2 (by omega)
          clear p q
          generalize ys[k] = y at p0 p1 p2 q0 q1 q2
          obtain ⟨id, qty, val⟩ := y
          simp only [layC, List.getElem?_cons_zero, List.getElem?_cons_succ, Nat.add_zero] at p0 p1 p2 q0 q1 q2
          have hne := neq_lay id qty val
          have mixed := csP.mixed
          go_wp2_with fail
          go_quiet (fail)
          go_wp2
          go_roundw
          case rel => exact ⟨k + 1, by omega, by go_num, m0 + nq, by rw [HWR.out, World.drewN_drewN]⟩
          case measure => simp [intOf]; omega
      · obtain rfl : k = ys.length := by omega
        go_wp2
        go_ret
        exact ⟨rfl, m0, HWR.out⟩
end Go.Proofs.Ytmldaiofghpfdaa
