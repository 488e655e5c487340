/- The walk of tallymanlaw.acts: one deed done to both books. -/
import Derived.Test.YtihkeblhidflpaaGreatDoorTwoBooks
namespace Go.Proofs.YtihkeblhidflpaaGreatDoor
open Go.RowKit
theorem lact_cells {w : World} (x : Ac) (T : TypeId) : ∀ j, (w.alloc (.cells #[.int .i64 x.what, .int .i64 x.id, .int .i64 x.e.id, .string x.e.item, .int .i64 x.e.kind, .int .i64 x.e.qty, .int .i64 x.e.price, .int .i64 x.e.ofI, .int .i64 x.e.day] T)).cell? ⟨w.heap.size, j, none⟩ = (acC x)[j]? := fun j => by
  rw [World.cell?_alloc_at _ _ _ _ rfl]; simp [acC]
/-- What a deed leaves. -/
def DoneA (w : World) (B p1 p2 : Nat) (b : Bk) (x : Ac) : Ending → World → Prop := fun r w' => r = .returned (.bool true) ∧ ∃ (v1 v2 : Value) (b' : Bk), Two w' B p1 v1 b' p2 v2 b' ∧ (b' = b ∨ StepA b x b') ∧ Below B w w'
set_option maxRecDepth 20000 in
set_option maxHeartbeats 8000000 in
theorem acts_any {w : World} {B p1 p2 : Nat} {v1 v2 : Value} {b : Bk} (h : Two w B p1 v1 b p2 v2 b) (ho : BkOk b) (hB : B ≤ w.heap.size) (hg : ∀ W, Below B w W → ErrType W) (x : Ac) (he : EvW x.e) :
    Calls Tryz.prog 5 #[.pointer (some ⟨p1, 0, none⟩), .pointer (some ⟨p2, 0, none⟩), acV x] w (DoneA w B p1 p2 b x) := by
  obtain ⟨what, id, ⟨id0, item, kind, qty, price, ofI, day⟩⟩ := x
  obtain ⟨W, hW⟩ : ∃ W, W = w.alloc (.cells #[.int .i64 what, .int .i64 id, .int .i64 id0, .string item, .int .i64 kind, .int .i64 qty, .int .i64 price, .int .i64 ofI, .int .i64 day] 37) := ⟨_, rfl⟩
  have hBW : Below w.heap.size w W := by rw [hW]; exact (Below.refl _ _).alloc (Nat.le_refl _) _
  have hBB : Below B w W := hBW.mono hB
  have hWs : W.heap.size = w.heap.size + 1 := by rw [hW]; simp
  have hcW : ∀ j, W.cell? ⟨w.heap.size, j, none⟩ = (acC ⟨what, id, ⟨id0, item, kind, qty, price, ofI, day⟩⟩)[j]? := by rw [hW]; exact lact_cells ⟨what, id, ⟨id0, item, kind, qty, price, ofI, day⟩⟩ _
  have H1 := h.below hBW
  have hx1 : w.heap.size ≠ p1 := by have := h.book.lt; omega
  have hx2 : w.heap.size ≠ p2 := by have := h.ref.lt; omega
  have hx3 : v1.ownBlock ≠ some w.heap.size := fun e => by have := (h.book.block _ e).2; omega
  have hx4 : v2.ownBlock ≠ some w.heap.size := fun e => by have := (h.ref.block _ e).2; omega
  have HG : Hid (∀ W, Below B w W → ErrType W) := hg
  have HD : Hid (∀ r w', DoneA w B p1 p2 b ⟨what, id, ⟨id0, item, kind, qty, price, ofI, day⟩⟩ r w' ↔ r = .returned (.bool true) ∧ ∃ (v1 v2 : Value) (b' : Bk), Two w' B p1 v1 b' p2 v2 b' ∧ (b' = b ∨ StepA b ⟨what, id, ⟨id0, item, kind, qty, price, ofI, day⟩⟩ b') ∧ Below B w w') := fun _ _ => Iff.rfl
  unfold acV
  simp only
  clear hg h
  by_cases h0 : what = 0
  · subst h0
    have hp := rpost_does H1.ref ho ⟨id0, item, kind, qty, price, ofI, day⟩ he
    unfold evV at hp
    simp only at hp
    go_enter Tryz.func5, Tryz.ntmps5
    go_wp2_with fail
    rw [← hW]
    refine hp.mono ?_
    rintro r w1 ⟨m, c, b1, sv2, rfl, hd, K2, T2, F2⟩
    have H2 := H1.step_ref K2 T2 F2
    have hb1 : Below B w w1 := T2.rbelow H1.ref hBB (by omega)
    have hbx : w1.heap[w.heap.size]? = W.heap[w.heap.size]? := T2.block _ (by omega) hx2 hx4
    have hc1 : ∀ j, w1.cell? ⟨w.heap.size, j, none⟩ = (acC ⟨0, id, ⟨id0, item, kind, qty, price, ofI, day⟩⟩)[j]? := fun j => (World.cell?_of_block (a := ⟨w.heap.size, j, none⟩) hbx).trans (hcW j)
    have q2 := hc1 2
    have q3 := hc1 3
    have q4 := hc1 4
    have q5 := hc1 5
    have q6 := hc1 6
    have q7 := hc1 7
    have q8 := hc1 8
    simp only [acC, List.getElem?_cons_zero, List.getElem?_cons_succ] at q2 q3 q4 q5 q6 q7 q8
    have hp2 := post_does H2.book ho ⟨id0, item, kind, qty, price, ofI, day⟩ he
    unfold evV at hp2
    simp only at hp2
    have HPD : Hid (PostD b ⟨id0, item, kind, qty, price, ofI, day⟩ m c b1) := hd
    clear hp hc1 hcW hW hd K2
    go_wp2_with fail
    refine hp2.mono ?_
    rintro r w2 ⟨m', c', b2, sv1, rfl, hd2, K3, T3, F3⟩
    have H3 := H2.step_book K3 T3 F3
    have hb2 : Below B w w2 := T3.below H2.book hb1 (by have := T2.size; omega)
    obtain ⟨rfl, rfl, rfl⟩ := PostD.det HPD.out hd2
    have HST : Hid (b1 = b ∨ StepA b ⟨0, id, ⟨id0, item, kind, qty, price, ofI, day⟩⟩ b1) := by
      rcases HPD.out with ⟨_, _, _, x⟩ | ⟨_, _, x1, x2, x3⟩
      · exact Or.inl x
      · exact Or.inr (Or.inl ⟨rfl, x1, x2, x3⟩)
    have hbr := bare_any c w2 (HG.out w2 hb2)
    clear hp2 hd2 HPD q2 q3 q4 q5 q6 q7 q8 K3
    generalize errV c = ev at hbr
    go_wp2_with fail
    refine hbr.mono ?_
    rintro r w3 ⟨rfl, hb3⟩
    have hs2 : B ≤ w2.heap.size := by have := T2.size; have := T3.size; omega
    have HF : Hid (DoneA w B p1 p2 b ⟨0, id, ⟨id0, item, kind, qty, price, ofI, day⟩⟩ (.returned (.bool true)) w3) := (HD.out (.returned (.bool true)) w3).2 ⟨rfl, _, _, _, H3.below hb3, HST.out, hb2.trans (hb3.mono hs2)⟩
    clear hbr
    go_wp2
    go_ret
    first | exact HF.out | (rw [show (Ending.returned _ : Ending) = .returned (.bool true) from by simp]; exact HF.out)
  · by_cases h1 : what = 1
    · subst h1
      go_enter Tryz.func5, Tryz.ntmps5
      go_wp2_with fail
      refine wp_region_keep (SameAt w.heap.size) [(true, 0), (true, 1), (true, 2), (true, 3), (true, 4), (true, 6), (true, 7), (true, 8), (true, 9), (true, 10), (false, 5), (false, 11), (false, 12), (true, 13)] (sameAt_refl _) (sameAt_trans _) (by kernel_rfl) (by kernel_rfl) ?_
      rw [← hW]
      obtain ⟨W0, hW0⟩ : ∃ x, x = W.drew := ⟨_, rfl⟩
      rw [← hW0]
      have hd0 : Below W.heap.size W W0 := by rw [hW0]; exact below_drew _
      have H2 := H1.below hd0
      have hb0 : Below B w W0 := hBB.trans (hd0.mono (by omega))
      have hc0 : ∀ j, W0.cell? ⟨w.heap.size, j, none⟩ = (acC ⟨1, id, ⟨id0, item, kind, qty, price, ofI, day⟩⟩)[j]? := fun j => (hd0.cell (p := ⟨w.heap.size, j, none⟩) (by show w.heap.size < _; omega)).trans (hcW j)
      have hs0 : w.heap.size < W0.heap.size := by have := hd0.size; omega
      have q1 := hc0 1
      have q2 := hc0 2
      have q3 := hc0 3
      have q4 := hc0 4
      have q5 := hc0 5
      have q6 := hc0 6
      have q7 := hc0 7
      have q8 := hc0 8
      simp only [acC, List.getElem?_cons_zero, List.getElem?_cons_succ] at q1 q2 q3 q4 q5 q6 q7 q8
      have hU := upK_ne w.heap.size
      have f1 := fun n : UpK (SameAt w.heap.size) W0 => n.cell q1
      have f2 := fun n : UpK (SameAt w.heap.size) W0 => n.cell q2
      have f3 := fun n : UpK (SameAt w.heap.size) W0 => n.cell q3
      have f4 := fun n : UpK (SameAt w.heap.size) W0 => n.cell q4
      have f5 := fun n : UpK (SameAt w.heap.size) W0 => n.cell q5
      have f6 := fun n : UpK (SameAt w.heap.size) W0 => n.cell q6
      have f7 := fun n : UpK (SameAt w.heap.size) W0 => n.cell q7
      have f8 := fun n : UpK (SameAt w.heap.size) W0 => n.cell q8
      clear hW hW0 hcW hc0 q1 q2 q3 q4 q5 q6 q7 q8
      repeat (refine keep_q rfl ?_; go_big_quiet_step (fail); refine wpQuiet_nil ?_)
      clear f1 f2 f3 f4 f5 f6 f7 f8
      have hp := corr_does H2.book ho id ⟨id0, item, kind, qty, price, ofI, day⟩ he
      unfold evV at hp
      simp only at hp
      refine keep_n rfl ?_
      go_wp2_with fail
      refine hp.mono ?_
      rintro r w1 ⟨c, b1, sv1, rfl, hd, K2, T2, F2⟩
      have H3 := H2.step_book K2 T2 F2
      have hb1 : Below B w w1 := T2.below H2.book hb0 (by omega)
      have HCD : Hid (CorrD b id ⟨id0, item, kind, qty, price, ofI, day⟩ c b1) := hd
      have hsm : SameAt w.heap.size W0 w1 := T2.block _ hs0 hx1 hx3
      have hp2 := rcorr_does H3.ref ho id ⟨id0, item, kind, qty, price, ofI, day⟩ he
      unfold evV at hp2
      simp only at hp2
      obtain ⟨ev, hev⟩ : ∃ ev, ev = errV c := ⟨_, rfl⟩
      rw [← hev]
      have HEV : Hid (ev = errV c) := hev
      clear hp hd K2 hev
      go_wp2_with fail
      refine ⟨rfl, hsm, ?_⟩
      refine keep_n rfl ?_
      go_wp2_with fail
      refine hp2.mono ?_
      rintro r w2 ⟨c', b2, sv2, rfl, hd2, K3, T3, F3⟩
      have H4 := H3.step_ref K3 T3 F3
      have hs1 : w.heap.size < w1.heap.size := by have := T2.size; omega
      have hb2 : Below B w w2 := T3.rbelow H3.ref hb1 (by omega)
      have hsm2 : SameAt w.heap.size w1 w2 := T3.block _ hs1 hx2 hx4
      obtain ⟨rfl, rfl⟩ := CorrD.det HCD.out hd2
      have HST : Hid (b1 = b ∨ StepA b ⟨1, id, ⟨id0, item, kind, qty, price, ofI, day⟩⟩ b1) := by
        rcases HCD.out with ⟨_, _, x⟩ | ⟨_, _, _, x⟩ | ⟨_, x1, x2, x3⟩
        · exact Or.inl x
        · exact Or.inl x
        · exact Or.inr (Or.inr (Or.inl ⟨rfl, x1, x2, x3⟩))
      have hbr := bare_any c w2 (HG.out w2 hb2)
      rw [← HEV.out] at hbr
      have hs2 : w.heap.size < w2.heap.size := by have := T3.size; omega
      clear hp2 hd2 HCD K3
      go_wp2_with fail
      refine ⟨rfl, hsm2, ?_⟩
      refine keep_n rfl ?_
      go_wp2_with fail
      refine hbr.mono ?_
      rintro r w3 ⟨rfl, hb3⟩
      have hsm3 : SameAt w.heap.size w2 w3 := hb3.block _ hs2
      have HF : Hid (DoneA w B p1 p2 b ⟨1, id, ⟨id0, item, kind, qty, price, ofI, day⟩⟩ (.returned (.bool true)) w3) := (HD.out (.returned (.bool true)) w3).2 ⟨rfl, _, _, _, H4.below hb3, HST.out, hb2.trans (hb3.mono (by omega))⟩
      clear hbr
      go_wp2_with fail
      refine ⟨rfl, hsm3, ?_⟩
      repeat (refine keep_q rfl ?_; go_big_quiet_step (fail); refine wpQuiet_nil ?_)
      refine keep_nil ?_
      go_wp2
      go_ret
      exact HF.out
    · by_cases h2 : what = 2
      · subst h2
        go_enter Tryz.func5, Tryz.ntmps5
        go_wp2_with fail
        refine wp_region_keep (SameAt w.heap.size) [(true, 0), (true, 1), (true, 2), (true, 4), (true, 5), (true, 6), (false, 3), (false, 7), (false, 8), (true, 9)] (sameAt_refl _) (sameAt_trans _) (by kernel_rfl) (by kernel_rfl) ?_
        rw [← hW]
        obtain ⟨W0, hW0⟩ : ∃ x, x = W.drew := ⟨_, rfl⟩
        rw [← hW0]
        have hd0 : Below W.heap.size W W0 := by rw [hW0]; exact below_drew _
        have H2 := H1.below hd0
        have hb0 : Below B w W0 := hBB.trans (hd0.mono (by omega))
        have hc0 : ∀ j, W0.cell? ⟨w.heap.size, j, none⟩ = (acC ⟨2, id, ⟨id0, item, kind, qty, price, ofI, day⟩⟩)[j]? := fun j => (hd0.cell (p := ⟨w.heap.size, j, none⟩) (by show w.heap.size < _; omega)).trans (hcW j)
        have hs0 : w.heap.size < W0.heap.size := by have := hd0.size; omega
        have q1 := hc0 1
        simp only [acC, List.getElem?_cons_zero, List.getElem?_cons_succ] at q1
        have hU := upK_ne w.heap.size
        have f1 := fun n : UpK (SameAt w.heap.size) W0 => n.cell q1
        clear hW hW0 hcW hc0 q1
        repeat (refine keep_q rfl ?_; go_big_quiet_step (fail); refine wpQuiet_nil ?_)
        clear f1
        have hp := void_does H2.book ho id
        refine keep_n rfl ?_
        go_wp2_with fail
        refine hp.mono ?_
        rintro r w1 ⟨c, b1, sv1, rfl, hd, K2, T2, F2⟩
        have H3 := H2.step_book K2 T2 F2
        have hb1 : Below B w w1 := T2.below H2.book hb0 (by omega)
        have HCD : Hid (VoidD b id c b1) := hd
        have hsm : SameAt w.heap.size W0 w1 := T2.block _ hs0 hx1 hx3
        have hp2 := rvoid_does H3.ref ho id
        obtain ⟨ev, hev⟩ : ∃ ev, ev = errV c := ⟨_, rfl⟩
        rw [← hev]
        have HEV : Hid (ev = errV c) := hev
        clear hp hd K2 hev
        go_wp2_with fail
        refine ⟨rfl, hsm, ?_⟩
        refine keep_n rfl ?_
        go_wp2_with fail
        refine hp2.mono ?_
        rintro r w2 ⟨c', b2, sv2, rfl, hd2, K3, T3, F3⟩
        have H4 := H3.step_ref K3 T3 F3
        have hs1 : w.heap.size < w1.heap.size := by have := T2.size; omega
        have hb2 : Below B w w2 := T3.rbelow H3.ref hb1 (by omega)
        have hsm2 : SameAt w.heap.size w1 w2 := T3.block _ hs1 hx2 hx4
        obtain ⟨rfl, rfl⟩ := VoidD.det HCD.out hd2
        have HST : Hid (b1 = b ∨ StepA b ⟨2, id, ⟨id0, item, kind, qty, price, ofI, day⟩⟩ b1) := by
          rcases HCD.out with ⟨_, _, x⟩ | ⟨_, x1⟩
          · exact Or.inl x
          · exact Or.inr (Or.inr (Or.inr ⟨rfl, x1⟩))
        have hbr := bare_any c w2 (HG.out w2 hb2)
        rw [← HEV.out] at hbr
        have hs2 : w.heap.size < w2.heap.size := by have := T3.size; omega
        clear hp2 hd2 HCD K3
        go_wp2_with fail
        refine ⟨rfl, hsm2, ?_⟩
        refine keep_n rfl ?_
        go_wp2_with fail
        refine hbr.mono ?_
        rintro r w3 ⟨rfl, hb3⟩
        have hsm3 : SameAt w.heap.size w2 w3 := hb3.block _ hs2
        have HF : Hid (DoneA w B p1 p2 b ⟨2, id, ⟨id0, item, kind, qty, price, ofI, day⟩⟩ (.returned (.bool true)) w3) := (HD.out (.returned (.bool true)) w3).2 ⟨rfl, _, _, _, H4.below hb3, HST.out, hb2.trans (hb3.mono (by omega))⟩
        clear hbr
        go_wp2_with fail
        refine ⟨rfl, hsm3, ?_⟩
        repeat (refine keep_q rfl ?_; go_big_quiet_step (fail); refine wpQuiet_nil ?_)
        refine keep_nil ?_
        go_wp2
        go_ret
        exact HF.out
      · have HF : Hid (DoneA w B p1 p2 b ⟨what, id, ⟨id0, item, kind, qty, price, ofI, day⟩⟩ (.returned (.bool true)) W) := (HD.out (.returned (.bool true)) W).2 ⟨rfl, _, _, _, H1, Or.inl rfl, hBB⟩
        rw [hW] at HF
        have k0 : (what == 0) = false := by simpa using h0
        have k1 : (what == 1) = false := by simpa using h1
        have k2 : (what == 2) = false := by simpa using h2
        clear hcW hBW hBB H1 hW
        go_enter Tryz.func5, Tryz.ntmps5
        go_wp2
        go_ret
        exact HF.out
end Go.Proofs.YtihkeblhidflpaaGreatDoor
