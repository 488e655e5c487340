/- The walk of tallymanlaw.acts: one deed done to both books. A list of deeds that was handed in, opened. The walk of tallymanlaw.short. A list of numbers that is handed in. Two books that have nothing. -/
import Derived.Test.YtcfgacdcgljbaaaGreatDoorBnK
import Derived.Test.YtcfgacdcgljbaaaGreatDoorBnD
import Derived.Deep.Slices
import Derived.Test.YtcfgacdcgljbaaaGreatDoorBnA
import Derived.ChangeSlices
namespace Go.Proofs.YtcfgacdcgljbaaaGreatDoor
open Go.RowKit
theorem lact_cells {w : World} (x : Ac) (T : TypeId) : ∀ j, (w.alloc (.cells #[.int .i64 x.what, .int .i64 x.id, .int .i64 x.e.id, .string x.e.item, .int .i64 x.e.kind, .int .i64 x.e.qty, .int .i64 x.e.price, .int .i64 x.e.ofI, .int .i64 x.e.day] T)).cell? ⟨w.heap.size, j, none⟩ = (acC x)[j]? := fun j => by
  rw [World.cell?_alloc_at _ _ _ _ rfl]; simp [acC]
/-- What a deed leaves. -/
def DoneA (w : World) (B p1 p2 : Nat) (u1 u2 : Value) (b : Bk) (x : Ac) : Ending → World → Prop := fun r w' => r = .returned (.bool true) ∧ ∃ (v1 v2 : Value) (b' : Bk), Two w' B p1 v1 b' p2 v2 b' ∧ (b' = b ∨ StepA b x b') ∧ Below B w w' ∧ Guest w w' p1 p2 u1 u2 v1 v2
set_option maxRecDepth 20000 in
set_option maxHeartbeats 8000000 in
theorem acts_any {w : World} {B p1 p2 : Nat} {v1 v2 : Value} {b : Bk} (h : Two w B p1 v1 b p2 v2 b) (ho : BkOk b) (hB : B ≤ w.heap.size) (hg : ∀ W, Below B w W → ErrType W) (x : Ac) (he : EvW x.e) :
    Calls Tryz.prog 7 #[.pointer (some ⟨p1, 0, none⟩), .pointer (some ⟨p2, 0, none⟩), acV x] w (DoneA w B p1 p2 v1 v2 b x) := by
  obtain ⟨what, id, ⟨id0, item, kind, qty, price, ofI, day⟩⟩ := x
  obtain ⟨W, hW⟩ : ∃ W, W = w.alloc (.cells #[.int .i64 what, .int .i64 id, .int .i64 id0, .string item, .int .i64 kind, .int .i64 qty, .int .i64 price, .int .i64 ofI, .int .i64 day] 46) := ⟨_, rfl⟩
  have hBW : Below w.heap.size w W := by rw [hW]; exact (Below.refl _ _).alloc (Nat.le_refl _) _
  have hBB : Below B w W := hBW.mono hB
  have hWs : W.heap.size = w.heap.size + 1 := by rw [hW]; simp
  have hcW : ∀ j, W.cell? ⟨w.heap.size, j, none⟩ = (acC ⟨what, id, ⟨id0, item, kind, qty, price, ofI, day⟩⟩)[j]? := by rw [hW]; exact lact_cells ⟨what, id, ⟨id0, item, kind, qty, price, ofI, day⟩⟩ _
  have H1 := h.below hBW
  have hx1 : w.heap.size ≠ p1 := by have := h.book.lt; omega
  have hx2 : w.heap.size ≠ p2 := by have := h.ref.lt; omega
  have hx3 : v1.ownBlock ≠ some w.heap.size := fun e => by have := (h.book.block _ e).2; omega
  have hx4 : v2.ownBlock ≠ some w.heap.size := fun e => by have := (h.ref.block _ e).2; omega
  have HG : Hid (∀ W, Below B w W → ErrType W) := hg
  have HD : Hid (∀ r w', DoneA w B p1 p2 v1 v2 b ⟨what, id, ⟨id0, item, kind, qty, price, ofI, day⟩⟩ r w' ↔ r = .returned (.bool true) ∧ ∃ (v1' v2' : Value) (b' : Bk), Two w' B p1 v1' b' p2 v2' b' ∧ (b' = b ∨ StepA b ⟨what, id, ⟨id0, item, kind, qty, price, ofI, day⟩⟩ b') ∧ Below B w w' ∧ Guest w w' p1 p2 v1 v2 v1' v2') := fun _ _ => Iff.rfl
  have HGW : Hid (Guest w W p1 p2 v1 v2 v1 v2) := Guest.of_below hBW
  unfold acV
  simp only
  clear hg h
  by_cases h0 : what = 0
  · subst h0
    have hp := rpost_does H1.ref ho ⟨id0, item, kind, qty, price, ofI, day⟩ he
    unfold evV at hp
    simp only at hp
    go_enter Tryz.func7, Tryz.ntmps7
    go_wp2_with fail
    rw [← hW]
    refine hp.mono ?_
    rintro r w1 ⟨m, c, b1, sv2, rfl, hd, K2, T2, F2⟩
    have H2 := H1.step_ref K2 T2 F2
    have HGU2 : Hid (Guest w w1 p1 p2 v1 v2 v1 sv2) := HGW.out.trans (Guest.ref T2 F2)
    have hb1 : Below B w w1 := T2.rbelow H1.ref hBB (by omega)
    have hbx : w1.heap[w.heap.size]? = W.heap[w.heap.size]? := T2.block _ (by omega) hx2 hx4
    have hc1 : ∀ j, w1.cell? ⟨w.heap.size, j, none⟩ = (acC ⟨0, id, ⟨id0, item, kind, qty, price, ofI, day⟩⟩)[j]? := fun j => (World.cell?_of_block (a := ⟨w.heap.size, j, none⟩) hbx).trans (hcW j)
    have q2 := hc1 2
    have q3 := hc1 3
    have q4 := hc1 4
    have q5 := hc1 5
    have q6 := hc1 6
    have q7 := hc1 7
    have q8 := hc1 8
    simp only [acC, List.getElem?_cons_zero, List.getElem?_cons_succ] at q2 q3 q4 q5 q6 q7 q8
    have hp2 := post_does H2.book ho ⟨id0, item, kind, qty, price, ofI, day⟩ he
    unfold evV at hp2
    simp only at hp2
    have HPD : Hid (PostD b ⟨id0, item, kind, qty, price, ofI, day⟩ m c b1) := hd
    clear hp hc1 hcW hW hd K2
    go_wp2_with fail
    refine hp2.mono ?_
    rintro r w2 ⟨m', c', b2, sv1, rfl, hd2, K3, T3, F3⟩
    have H3 := H2.step_book K3 T3 F3
    have HGU3 : Hid (Guest w w2 p1 p2 v1 v2 sv1 sv2) := HGU2.out.trans (Guest.book T3 F3)
    have hb2 : Below B w w2 := T3.below H2.book hb1 (by have := T2.size; omega)
    obtain ⟨rfl, rfl, rfl⟩ := PostD.det HPD.out hd2
    have HST : Hid (b1 = b ∨ StepA b ⟨0, id, ⟨id0, item, kind, qty, price, ofI, day⟩⟩ b1) := by
      rcases HPD.out with ⟨_, _, _, x⟩ | ⟨_, _, x1, x2, x3⟩
      · exact Or.inl x
      · exact Or.inr (Or.inl ⟨rfl, x1, x2, x3⟩)
    have hbr := bare_any c w2 (HG.out w2 hb2)
    clear hp2 hd2 HPD q2 q3 q4 q5 q6 q7 q8 K3
    generalize errV c = ev at hbr
    go_wp2_with fail
    refine hbr.mono ?_
    rintro r w3 ⟨rfl, hb3⟩
    have hs2 : B ≤ w2.heap.size := by have := T2.size; have := T3.size; omega
    have HF : Hid (DoneA w B p1 p2 v1 v2 b ⟨0, id, ⟨id0, item, kind, qty, price, ofI, day⟩⟩ (.returned (.bool true)) w3) := (HD.out (.returned (.bool true)) w3).2 ⟨rfl, _, _, _, H3.below hb3, HST.out, hb2.trans (hb3.mono hs2), HGU3.out.trans (Guest.of_below hb3)⟩
    clear hbr
    go_wp2
    go_ret
    first | exact HF.out | (rw [show (Ending.returned _ : Ending) = .returned (.bool true) from by simp]; exact HF.out)
  · by_cases h1 : what = 1
    · subst h1
      go_enter Tryz.func7, Tryz.ntmps7
      go_wp2_with fail
      refine wp_region_keep (SameAt w.heap.size) [(true, 0), (true, 1), (true, 2), (true, 3), (true, 4), (true, 6), (true, 7), (true, 8), (true, 9), (true, 10), (false, 5), (false, 11), (false, 12), (true, 13)] (sameAt_refl _) (sameAt_trans _) (by kernel_rfl) (by kernel_rfl) ?_
      rw [← hW]
      obtain ⟨W0, hW0⟩ : ∃ x, x = W.drew := ⟨_, rfl⟩
      rw [← hW0]
      have hd0 : Below W.heap.size W W0 := by rw [hW0]; exact below_drew _
      have H2 := H1.below hd0
      have hb0 : Below B w W0 := hBB.trans (hd0.mono (by omega))
      have hc0 : ∀ j, W0.cell? ⟨w.heap.size, j, none⟩ = (acC ⟨1, id, ⟨id0, item, kind, qty, price, ofI, day⟩⟩)[j]? := fun j => (hd0.cell (p := ⟨w.heap.size, j, none⟩) (by show w.heap.size < _; omega)).trans (hcW j)
      have hs0 : w.heap.size < W0.heap.size := by have := hd0.size; omega
      have q1 := hc0 1
      have q2 := hc0 2
      have q3 := hc0 3
      have q4 := hc0 4
      have q5 := hc0 5
      have q6 := hc0 6
      have q7 := hc0 7
      have q8 := hc0 8
      simp only [acC, List.getElem?_cons_zero, List.getElem?_cons_succ] at q1 q2 q3 q4 q5 q6 q7 q8
      have hU := upK_ne w.heap.size
      have f1 := fun n : UpK (SameAt w.heap.size) W0 => n.cell q1
      have f2 := fun n : UpK (SameAt w.heap.size) W0 => n.cell q2
      have f3 := fun n : UpK (SameAt w.heap.size) W0 => n.cell q3
      have f4 := fun n : UpK (SameAt w.heap.size) W0 => n.cell q4
      have f5 := fun n : UpK (SameAt w.heap.size) W0 => n.cell q5
      have f6 := fun n : UpK (SameAt w.heap.size) W0 => n.cell q6
      have f7 := fun n : UpK (SameAt w.heap.size) W0 => n.cell q7
      have f8 := fun n : UpK (SameAt w.heap.size) W0 => n.cell q8
      clear hW hW0 hcW hc0 q1 q2 q3 q4 q5 q6 q7 q8
      repeat (refine keep_q rfl ?_; go_big_quiet_step (fail); refine wpQuiet_nil ?_)
      clear f1 f2 f3 f4 f5 f6 f7 f8
      have hp := corr_does H2.book ho id ⟨id0, item, kind, qty, price, ofI, day⟩ he
      unfold evV at hp
      simp only at hp
      refine keep_n rfl ?_
      go_wp2_with fail
      refine hp.mono ?_
      rintro r w1 ⟨c, b1, sv1, rfl, hd, K2, T2, F2⟩
      have H3 := H2.step_book K2 T2 F2
      have HGU2 : Hid (Guest w w1 p1 p2 v1 v2 sv1 v2) := (HGW.out.trans (Guest.of_below hd0)).trans (Guest.book T2 F2)
      have hb1 : Below B w w1 := T2.below H2.book hb0 (by omega)
      have HCD : Hid (CorrD b id ⟨id0, item, kind, qty, price, ofI, day⟩ c b1) := hd
      have hsm : SameAt w.heap.size W0 w1 := T2.block _ hs0 hx1 hx3
      have hp2 := rcorr_does H3.ref ho id ⟨id0, item, kind, qty, price, ofI, day⟩ he
      unfold evV at hp2
      simp only at hp2
      obtain ⟨ev, hev⟩ : ∃ ev, ev = errV c := ⟨_, rfl⟩
      rw [← hev]
      have HEV : Hid (ev = errV c) := hev
      clear hp hd K2 hev
      go_wp2_with fail
      refine ⟨rfl, hsm, ?_⟩
      refine keep_n rfl ?_
      go_wp2_with fail
      refine hp2.mono ?_
      rintro r w2 ⟨c', b2, sv2, rfl, hd2, K3, T3, F3⟩
      have H4 := H3.step_ref K3 T3 F3
      have HGU3 : Hid (Guest w w2 p1 p2 v1 v2 sv1 sv2) := HGU2.out.trans (Guest.ref T3 F3)
      have hs1 : w.heap.size < w1.heap.size := by have := T2.size; omega
      have hb2 : Below B w w2 := T3.rbelow H3.ref hb1 (by omega)
      have hsm2 : SameAt w.heap.size w1 w2 := T3.block _ hs1 hx2 hx4
      obtain ⟨rfl, rfl⟩ := CorrD.det HCD.out hd2
      have HST : Hid (b1 = b ∨ StepA b ⟨1, id, ⟨id0, item, kind, qty, price, ofI, day⟩⟩ b1) := by
        rcases HCD.out with ⟨_, _, x⟩ | ⟨_, _, _, x⟩ | ⟨_, x1, x2, x3⟩
        · exact Or.inl x
        · exact Or.inl x
        · exact Or.inr (Or.inr (Or.inl ⟨rfl, x1, x2, x3⟩))
      have hbr := bare_any c w2 (HG.out w2 hb2)
      rw [← HEV.out] at hbr
      have hs2 : w.heap.size < w2.heap.size := by have := T3.size; omega
      clear hp2 hd2 HCD K3
      go_wp2_with fail
      refine ⟨rfl, hsm2, ?_⟩
      refine keep_n rfl ?_
      go_wp2_with fail
      refine hbr.mono ?_
      rintro r w3 ⟨rfl, hb3⟩
      have hsm3 : SameAt w.heap.size w2 w3 := hb3.block _ hs2
      have HF : Hid (DoneA w B p1 p2 v1 v2 b ⟨1, id, ⟨id0, item, kind, qty, price, ofI, day⟩⟩ (.returned (.bool true)) w3) := (HD.out (.returned (.bool true)) w3).2 ⟨rfl, _, _, _, H4.below hb3, HST.out, hb2.trans (hb3.mono (by omega)), HGU3.out.trans (Guest.of_below hb3)⟩
      clear hbr
      go_wp2_with fail
      refine ⟨rfl, hsm3, ?_⟩
      repeat (refine keep_q rfl ?_; go_big_quiet_step (fail); refine wpQuiet_nil ?_)
      refine keep_nil ?_
      go_wp2
      go_ret
      exact HF.out
    · by_cases h2 : what = 2
      · subst h2
        go_enter Tryz.func7, Tryz.ntmps7
        go_wp2_with fail
        refine wp_region_keep (SameAt w.heap.size) [(true, 0), (true, 1), (true, 2), (true, 4), (true, 5), (true, 6), (false, 3), (false, 7), (false, 8), (true, 9)] (sameAt_refl _) (sameAt_trans _) (by kernel_rfl) (by kernel_rfl) ?_
        rw [← hW]
        obtain ⟨W0, hW0⟩ : ∃ x, x = W.drew := ⟨_, rfl⟩
        rw [← hW0]
        have hd0 : Below W.heap.size W W0 := by rw [hW0]; exact below_drew _
        have H2 := H1.below hd0
        have hb0 : Below B w W0 := hBB.trans (hd0.mono (by omega))
        have hc0 : ∀ j, W0.cell? ⟨w.heap.size, j, none⟩ = (acC ⟨2, id, ⟨id0, item, kind, qty, price, ofI, day⟩⟩)[j]? := fun j => (hd0.cell (p := ⟨w.heap.size, j, none⟩) (by show w.heap.size < _; omega)).trans (hcW j)
        have hs0 : w.heap.size < W0.heap.size := by have := hd0.size; omega
        have q1 := hc0 1
        simp only [acC, List.getElem?_cons_zero, List.getElem?_cons_succ] at q1
        have hU := upK_ne w.heap.size
        have f1 := fun n : UpK (SameAt w.heap.size) W0 => n.cell q1
        clear hW hW0 hcW hc0 q1
        repeat (refine keep_q rfl ?_; go_big_quiet_step (fail); refine wpQuiet_nil ?_)
        clear f1
        have hp := void_does H2.book ho id
        refine keep_n rfl ?_
        go_wp2_with fail
        refine hp.mono ?_
        rintro r w1 ⟨c, b1, sv1, rfl, hd, K2, T2, F2⟩
        have H3 := H2.step_book K2 T2 F2
        have HGU2 : Hid (Guest w w1 p1 p2 v1 v2 sv1 v2) := (HGW.out.trans (Guest.of_below hd0)).trans (Guest.book T2 F2)
        have hb1 : Below B w w1 := T2.below H2.book hb0 (by omega)
        have HCD : Hid (VoidD b id c b1) := hd
        have hsm : SameAt w.heap.size W0 w1 := T2.block _ hs0 hx1 hx3
        have hp2 := rvoid_does H3.ref ho id
        obtain ⟨ev, hev⟩ : ∃ ev, ev = errV c := ⟨_, rfl⟩
        rw [← hev]
        have HEV : Hid (ev = errV c) := hev
        clear hp hd K2 hev
        go_wp2_with fail
        refine ⟨rfl, hsm, ?_⟩
        refine keep_n rfl ?_
        go_wp2_with fail
        refine hp2.mono ?_
        rintro r w2 ⟨c', b2, sv2, rfl, hd2, K3, T3, F3⟩
        have H4 := H3.step_ref K3 T3 F3
        have HGU3 : Hid (Guest w w2 p1 p2 v1 v2 sv1 sv2) := HGU2.out.trans (Guest.ref T3 F3)
        have hs1 : w.heap.size < w1.heap.size := by have := T2.size; omega
        have hb2 : Below B w w2 := T3.rbelow H3.ref hb1 (by omega)
        have hsm2 : SameAt w.heap.size w1 w2 := T3.block _ hs1 hx2 hx4
        obtain ⟨rfl, rfl⟩ := VoidD.det HCD.out hd2
        have HST : Hid (b1 = b ∨ StepA b ⟨2, id, ⟨id0, item, kind, qty, price, ofI, day⟩⟩ b1) := by
          rcases HCD.out with ⟨_, _, x⟩ | ⟨_, x1⟩
          · exact Or.inl x
          · exact Or.inr (Or.inr (Or.inr ⟨rfl, x1⟩))
        have hbr := bare_any c w2 (HG.out w2 hb2)
        rw [← HEV.out] at hbr
        have hs2 : w.heap.size < w2.heap.size := by have := T3.size; omega
        clear hp2 hd2 HCD K3
        go_wp2_with fail
        refine ⟨rfl, hsm2, ?_⟩
        refine keep_n rfl ?_
        go_wp2_with fail
        refine hbr.mono ?_
        rintro r w3 ⟨rfl, hb3⟩
        have hsm3 : SameAt w.heap.size w2 w3 := hb3.block _ hs2
        have HF : Hid (DoneA w B p1 p2 v1 v2 b ⟨2, id, ⟨id0, item, kind, qty, price, ofI, day⟩⟩ (.returned (.bool true)) w3) := (HD.out (.returned (.bool true)) w3).2 ⟨rfl, _, _, _, H4.below hb3, HST.out, hb2.trans (hb3.mono (by omega)), HGU3.out.trans (Guest.of_below hb3)⟩
        clear hbr
        go_wp2_with fail
        refine ⟨rfl, hsm3, ?_⟩
        repeat (refine keep_q rfl ?_; go_big_quiet_step (fail); refine wpQuiet_nil ?_)
        refine keep_nil ?_
        go_wp2
        go_ret
        exact HF.out
      · have HF : Hid (DoneA w B p1 p2 v1 v2 b ⟨what, id, ⟨id0, item, kind, qty, price, ofI, day⟩⟩ (.returned (.bool true)) W) := (HD.out (.returned (.bool true)) W).2 ⟨rfl, _, _, _, H1, Or.inl rfl, hBB, HGW.out⟩
        rw [hW] at HF
        have k0 : (what == 0) = false := by simpa using h0
        have k1 : (what == 1) = false := by simpa using h1
        have k2 : (what == 2) = false := by simpa using h2
        clear hcW hBW hBB H1 hW
        go_enter Tryz.func7, Tryz.ntmps7
        go_wp2
        go_ret
        exact HF.out
end Go.Proofs.YtcfgacdcgljbaaaGreatDoor
namespace Go.Proofs.YtcfgacdcgljbaaaGreatDoor
open Go.ChangeShapes Go.WideShapes Go.RowKit Go.Deep Go.WideElems Go.Maps Go.Joins
/-- Deeds lie behind an address. -/
def ActsAt (w : World) (ao : Option Addr) (l : List Ac) : Prop :=
  (∀ x ∈ l, EvW x.e) ∧ (0 < l.length → ∃ b off, ao = some ⟨b, off, none⟩ ∧ b < w.heap.size ∧ ∀ k (hk : k < l.length) j, j < 9 → w.cell? ⟨b, off + k * 9 + j, none⟩ = (acC l[k])[j]?)
theorem ActsAt.below {w w' : World} {ao : Option Addr} {l : List Ac} {B : Nat} (h : ActsAt w ao l) (hb : Below B w w') (hB : w.heap.size ≤ B) : ActsAt w' ao l := by
  refine ⟨h.1, fun hp => ?_⟩
  obtain ⟨b, off, e, hlt, hc⟩ := h.2 hp
  refine ⟨b, off, e, Nat.lt_of_lt_of_le hlt hb.size, fun k hk j hj => ?_⟩
  rw [hb.cell (p := ⟨b, off + k * 9 + j, none⟩) (Nat.lt_of_lt_of_le hlt hB)]
  exact hc k hk j hj
section
variable {H : Type} {enc : TypeId × Value → H} {w : World} {base : Nat} {spare : Nat → Bool} {held : Bool}
theorem list9 {α : Type} {l : List α} (h : l.length = 9) : ∃ c0 c1 c2 c3 c4 c5 c6 c7 c8, l = [c0, c1, c2, c3, c4, c5, c6, c7, c8] := by
  match l, h with
  | [c0, c1, c2, c3, c4, c5, c6, c7, c8], _ => exact ⟨c0, c1, c2, c3, c4, c5, c6, c7, c8, rfl⟩
theorem ac_cells : Tryz.prog.cellsOf 46 = 9 := by kernel_rfl
theorem int_cells : Tryz.prog.cellsOf 3 = 1 := by kernel_rfl
theorem cells_agg7 {P : Program} {t : TypeId} {fuel : Nat} {f0 f1 f2 f3 f4 f5 f6 : Field} {cs : List Value} {x : DataW H × List MemPlace} (hs : P.underlying t = some (.struct #[f0, f1, f2, f3, f4, f5, f6])) (hone : oneCellFields P #[f0, f1, f2, f3, f4, f5, f6] = true) (hC : P.cellsOf t = 7)
    (h : DataW.trod enc P w base spare held fuel t cs = some x) :
    ∃ (v0 v1 v2 v3 v4 v5 v6 : Value) (y0 y1 y2 y3 y4 y5 y6 : DataW H × List MemPlace) (n : Nat), cs = [v0, v1, v2, v3, v4, v5, v6] ∧
      DataW.trod enc P w base spare held n f0.type [v0] = some y0 ∧ DataW.trod enc P w base spare held n f1.type [v1] = some y1 ∧ DataW.trod enc P w base spare held n f2.type [v2] = some y2 ∧ DataW.trod enc P w base spare held n f3.type [v3] = some y3 ∧
      DataW.trod enc P w base spare held n f4.type [v4] = some y4 ∧ DataW.trod enc P w base spare held n f5.type [v5] = some y5 ∧ DataW.trod enc P w base spare held n f6.type [v6] = some y6 := by
  obtain ⟨xs, n, _, _, hlen, hxl, hfs⟩ := DataW.trod_struct hs h
  obtain ⟨c0, c1, c2, c3, c4, c5, c6, rfl⟩ := list7 (hlen.trans hC)
  obtain ⟨y0, y1, y2, y3, y4, y5, y6, rfl⟩ := list7 (hxl.trans rfl)
  have g0 := hfs 0 f0 rfl
  have g1 := hfs 1 f1 rfl
  have g2 := hfs 2 f2 rfl
  have g3 := hfs 3 f3 rfl
  have g4 := hfs 4 f4 rfl
  have g5 := hfs 5 f5 rfl
  have g6 := hfs 6 f6 rfl
  obtain ⟨o0, k0⟩ := hone_of hone 0 f0 rfl
  obtain ⟨o1, k1⟩ := hone_of hone 1 f1 rfl
  obtain ⟨o2, k2⟩ := hone_of hone 2 f2 rfl
  obtain ⟨o3, k3⟩ := hone_of hone 3 f3 rfl
  obtain ⟨o4, k4⟩ := hone_of hone 4 f4 rfl
  obtain ⟨o5, k5⟩ := hone_of hone 5 f5 rfl
  obtain ⟨o6, k6⟩ := hone_of hone 6 f6 rfl
  rw [o0, k0] at g0
  rw [o1, k1] at g1
  rw [o2, k2] at g2
  rw [o3, k3] at g3
  rw [o4, k4] at g4
  rw [o5, k5] at g5
  rw [o6, k6] at g6
  exact ⟨c0, c1, c2, c3, c4, c5, c6, y0, y1, y2, y3, y4, y5, y6, n, rfl, g0, g1, g2, g3, g4, g5, g6⟩
set_option maxRecDepth 100000 in
theorem ev_of_cells {fuel : Nat} {cs : List Value} {x : DataW H × List MemPlace} (h : DataW.trod enc Tryz.prog w base spare held fuel 44 cs = some x) : ∃ e : Ev, cs = evC e ∧ EvW e := by
  obtain ⟨v0, v1, v2, v3, v4, v5, v6, y0, y1, y2, y3, y4, y5, y6, n, rfl, h0, h1, h2, h3, h4, h5, h6⟩ := cells_agg7 Tryz.underlying44 (by kernel_rfl) ev_cells h
  obtain ⟨a0, e0, _, w0⟩ := DataW.trod_int Tryz.underlying3 h0
  obtain ⟨a1, e1, _, w1⟩ := DataW.trod_string Tryz.underlying9 h1
  obtain ⟨a2, e2, _, w2⟩ := DataW.trod_int Tryz.underlying3 h2
  obtain ⟨a3, e3, _, w3⟩ := DataW.trod_int Tryz.underlying3 h3
  obtain ⟨a4, e4, _, w4⟩ := DataW.trod_int Tryz.underlying3 h4
  obtain ⟨a5, e5, _, w5⟩ := DataW.trod_int Tryz.underlying3 h5
  obtain ⟨a6, e6, _, w6⟩ := DataW.trod_int Tryz.underlying3 h6
  simp only [List.cons.injEq, and_true] at e0 e1 e2 e3 e4 e5 e6
  subst e0 e1 e2 e3 e4 e5 e6
  exact ⟨⟨a0, a1, a2, a3, a4, a5, a6⟩, rfl, ⟨w0, w1, w2, w3, w4, w5, w6⟩⟩
theorem cells_act {P : Program} {t : TypeId} {fuel : Nat} {f0 f1 f2 : Field} {cs : List Value} {x : DataW H × List MemPlace} (hs : P.underlying t = some (.struct #[f0, f1, f2])) (hC : P.cellsOf t = 9) (o0 : f0.offset = 0) (o1 : f1.offset = 1) (o2 : f2.offset = 2) (k0 : P.cellsOf f0.type = 1) (k1 : P.cellsOf f1.type = 1) (k2 : P.cellsOf f2.type = 7)
    (h : DataW.trod enc P w base spare held fuel t cs = some x) :
    ∃ (v0 v1 : Value) (r : List Value) (y0 y1 y2 : DataW H × List MemPlace) (n : Nat), cs = v0 :: v1 :: r ∧
      DataW.trod enc P w base spare held n f0.type [v0] = some y0 ∧ DataW.trod enc P w base spare held n f1.type [v1] = some y1 ∧ DataW.trod enc P w base spare held n f2.type r = some y2 := by
  obtain ⟨xs, n, _, _, hlen, hxl, hfs⟩ := DataW.trod_struct hs h
  obtain ⟨c0, c1, c2, c3, c4, c5, c6, c7, c8, rfl⟩ := list9 (hlen.trans hC)
  obtain ⟨y0, y1, y2, rfl⟩ : ∃ y0 y1 y2, xs = [y0, y1, y2] := by
    match xs, hxl with
    | [y0, y1, y2], _ => exact ⟨y0, y1, y2, rfl⟩
  have g0 := hfs 0 f0 rfl
  have g1 := hfs 1 f1 rfl
  have g2 := hfs 2 f2 rfl
  rw [o0, k0] at g0
  rw [o1, k1] at g1
  rw [o2, k2] at g2
  exact ⟨c0, c1, [c2, c3, c4, c5, c6, c7, c8], y0, y1, y2, n, rfl, g0, g1, g2⟩
set_option maxRecDepth 100000 in
theorem ac_of_cells {fuel : Nat} {cs : List Value} {x : DataW H × List MemPlace} (h : DataW.trod enc Tryz.prog w base spare held fuel 46 cs = some x) : ∃ a : Ac, cs = acC a ∧ EvW a.e := by
  obtain ⟨v0, v1, r, y0, y1, y2, n, rfl, g0, g1, g2⟩ := cells_act Tryz.underlying46 ac_cells rfl rfl rfl int_cells int_cells ev_cells h
  obtain ⟨a0, e0, _, w0⟩ := DataW.trod_int Tryz.underlying3 g0
  obtain ⟨a1, e1, _, w1⟩ := DataW.trod_int Tryz.underlying3 g1
  obtain ⟨e, he, hw⟩ := ev_of_cells g2
  simp only [List.cons.injEq, and_true] at e0 e1
  subst e0 e1
  exact ⟨⟨a0, a1, e⟩, by rw [he]; rfl, hw⟩
theorem mapM_at {α β : Type} {f : α → Option β} : ∀ {l : List α} {r : List β}, l.mapM f = some r → ∀ j (hj : j < l.length), f l[j] = r[j]?
  | [], _, _, j, hj => absurd hj (Nat.not_lt_zero _)
  | a :: l, r, h, j, hj => by
    rw [List.mapM_cons] at h
    cases ha : f a with
    | none => rw [ha] at h; cases h
    | some b =>
      rw [ha] at h
      cases hl : l.mapM f with
      | none => rw [hl] at h; cases h
      | some r' =>
        rw [hl] at h
        have e : r = b :: r' := (Option.some.inj h).symm
        subst e
        cases j with
        | zero => simpa using ha
        | succ j => simpa using mapM_at hl j (by simpa using hj)
theorem open_acts {fuel : Nat} {cs : List Value} {x : DataW H × List MemPlace} (h : DataW.trod enc Tryz.prog w 0 spare held fuel 22 cs = some x) :
    ∃ (ao : Option Addr) (cap : Nat) (l : List Ac), cs = [.slice ao l.length cap] ∧ ActsAt w ao l ∧ l.length ≤ maxLen := by
  rcases open_slice Tryz.underlying22 h with ⟨hcs, _⟩ | ⟨a, len, cap, m, n, D, Pl, hcs, _, hl, hm, hmm, _, hel⟩
  · exact ⟨none, 0, [], hcs, ⟨fun x hx => (by cases hx), fun hp => absurd hp (Nat.lt_irrefl _)⟩, Nat.zero_le _⟩
  · have hlm : len ≤ m := by rw [hmm]; split <;> omega
    have h1 : ∀ i, i < len → ∃ a' : Ac, w.cells? 0 (a.add (i * Tryz.prog.cellsOf 46)) (Tryz.prog.cellsOf 46) = some (acC a') ∧ EvW a'.e := fun i hi => by
      obtain ⟨cs', h1, h2⟩ := hel i (by omega)
      obtain ⟨a', he, hw⟩ := ac_of_cells h2
      exact ⟨a', by rw [h1, he], hw⟩
    obtain ⟨f, hf⟩ := choose_lt h1
    have hlen : ((List.range len).map f).length = len := by simp
    refine ⟨some a, cap, (List.range len).map f, by rw [hlen]; exact hcs, ⟨fun x hx => ?_, fun hp => ?_⟩, by rw [hlen]; omega⟩
    · obtain ⟨i, hi, rfl⟩ := List.mem_map.1 hx
      exact (hf i (by simpa using hi)).2
    · rw [hlen] at hp
      have cell : ∀ i, i < len → ∀ j, j < 9 → w.cell? ((a.add (i * 9)).add j) = (acC (f i))[j]? := fun i hi j hj => by
        have hc := (hf i hi).1
        rw [ac_cells] at hc
        unfold World.cells? at hc
        rw [if_pos (Nat.zero_le _)] at hc
        have := mapM_at hc j (by simpa using hj)
        simpa using this
      have hs : a.spot = none := by
        have := cell 0 hp 0 (by decide)
        cases hsp : a.spot with
        | none => rfl
        | some s =>
          simp [World.cell?, Addr.add, hsp, acC] at this
          split at this <;> simp at this
      obtain ⟨b, off, sp⟩ := a
      simp only at hs
      subst hs
      have hb : b < w.heap.size := by
        have := cell 0 hp 0 (by decide)
        simp only [acC, List.getElem?_cons_zero, Addr.add_lit] at this
        exact World.block_lt_of_cell? _ _ this
      refine ⟨b, off, rfl, hb, fun k hk j hj => ?_⟩
      have := cell k (by rw [hlen] at hk; exact hk) j hj
      rw [Addr.add_lit, Addr.add_lit] at this
      rw [this]
      simp
end
end Go.Proofs.YtcfgacdcgljbaaaGreatDoor
namespace Go.Proofs.YtcfgacdcgljbaaaGreatDoor
open Go.RowKit
/-- It tells a Bool: true only where there are at most n. -/
def AtMost (n : Nat) (l : List Ac) (e : Ending) : Prop := ∃ bb : Bool, e = .returned (.bool bb) ∧ (bb = true → l.length ≤ n)
set_option maxRecDepth 20000 in
set_option maxHeartbeats 2000000 in
theorem short_any (l : List Ac) (ao : Option Addr) (cap : Nat) (w : World) (h : ActsAt w ao l) (hm : l.length ≤ maxLen) :
    Calls Tryz.prog 6 #[.slice ao l.length cap] w fun e w' => AtMost 140 l e ∧ w' = w := by
  unfold maxLen at hm
  by_cases h140 : l.length ≤ 140
  · have hnn : ¬ (140 : Int) < (l.length : Int) := by omega
    go_enter Tryz.func6, Tryz.ntmps6
    go_wp2
    go_loop [3] (fun i => ∃ k : Nat, k ≤ l.length ∧ i = .int .i64 k) (fun i => l.length - (intOf i).toNat)
    case atStart => exact ⟨0, Nat.zero_le _, rfl⟩
    case round =>
      obtain ⟨k, hk, rfl⟩ := hrel
      by_cases hlt : k < l.length
      · obtain ⟨b, off, rfl, hb, hc⟩ := h.2 (by omega)
        have hcx := hc k hlt 3 (by decide)
        simp only [acC, List.getElem?_cons_zero, List.getElem?_cons_succ] at hcx
        have hs : l[k].e.item.size ≤ maxLen := (h.1 _ (List.getElem_mem hlt)).item
        generalize l[k].e.item = s at hcx hs
        unfold maxLen at hs
        have hkz : (k : Int) < (l.length : Int) := by omega
        clear hc h
        by_cases h60 : 60 < s.size
        · go_wp2
          go_ret
          exact ⟨⟨false, rfl, fun h => (by cases h)⟩, rfl⟩
        · go_wp2
          go_round
          case rel => exact ⟨k + 1, by omega, by go_num⟩
          case measure => simp [intOf]; omega
      · go_wp2
        go_ret
        exact ⟨⟨true, rfl, fun _ => h140⟩, rfl⟩
  · have hnn : (140 : Int) < (l.length : Int) := by omega
    go_enter Tryz.func6, Tryz.ntmps6
    go_wp2
    go_ret
    exact ⟨⟨false, rfl, fun h => (by cases h)⟩, rfl⟩
end Go.Proofs.YtcfgacdcgljbaaaGreatDoor
namespace Go.Proofs.YtcfgacdcgljbaaaGreatDoor
open Go.RowKit Go.ChangeShapes Go.WideShapes Go.ChangeAt
/-- Numbers that are handed in. -/
def IntsAt (w : World) (ao : Option Addr) (zs : List Int) : Prop := 0 < zs.length → ∃ b off, ao = some ⟨b, off, none⟩ ∧ b < w.heap.size ∧ ∀ k (hk : k < zs.length), w.cell? ⟨b, off + k, none⟩ = some (.int .i64 zs[k])
theorem IntsAt.below {w w' : World} {ao : Option Addr} {zs : List Int} {B : Nat} (h : IntsAt w ao zs) (hb : Below B w w') (hB : w.heap.size ≤ B) : IntsAt w' ao zs := fun hp => by
  obtain ⟨b, off, e, hlt, hc⟩ := h hp
  exact ⟨b, off, e, Nat.lt_of_lt_of_le hlt hb.size, fun k hk => (hb.cell (p := ⟨b, off + k, none⟩) (by show b < B; omega)).trans (hc k hk)⟩
section
variable {H : Type} {enc : TypeId × Value → H} {w : World} {spare : Nat → Bool} {held : Bool}
theorem open_nums {fuel : Nat} {cs : List Value} {x : DataW H × List MemPlace} (h : DataW.trod enc Tryz.prog w 0 spare held fuel 23 cs = some x) :
    ∃ (ao : Option Addr) (cap : Nat) (zs : List Int), cs = [.slice ao zs.length cap] ∧ IntsAt w ao zs ∧ zs.length ≤ maxLen := by
  rcases open_ints Tryz.underlying23 Tryz.underlying3 (by kernel_rfl) h with ⟨hcs, _⟩ | ⟨a, len, cap, zs, hcs, _, hl, hm, hz, _, hcell, _⟩
  · exact ⟨none, 0, [], hcs, fun hp => absurd hp (Nat.lt_irrefl _), Nat.zero_le _⟩
  · have hlz : len ≤ zs.length := by rw [hz]; split <;> omega
    have hlt : (zs.take len).length = len := by rw [List.length_take, Nat.min_eq_left hlz]
    refine ⟨some a, cap, zs.take len, by rw [hlt]; exact hcs, fun hp => ?_, by rw [hlt]; omega⟩
    rw [hlt] at hp
    have c0 := hcell 0 (by omega)
    have hs : a.spot = none := by
      cases hsp : a.spot with
      | none => rfl
      | some s =>
        simp [World.cell?, Addr.add, hsp] at c0
        split at c0 <;> simp at c0
    obtain ⟨b, off, sp⟩ := a
    simp only at hs
    subst hs
    rw [Addr.add_lit] at c0
    refine ⟨b, off, rfl, World.block_lt_of_cell? _ _ c0, fun k hk => ?_⟩
    rw [hlt] at hk
    have := hcell k (by omega)
    rw [Addr.add_lit] at this
    rw [this, List.getElem_take]
    simp [List.getD, List.getElem?_eq_getElem (show k < zs.length by omega)]
end
end Go.Proofs.YtcfgacdcgljbaaaGreatDoor
namespace Go.Proofs.YtcfgacdcgljbaaaGreatDoor
open Go.RowKit
def bkZ : Bk := ⟨[], 0, 0⟩
theorem two_new (w : World) : Two ((w.alloc (.cells #[.slice none 0 0, .int .i64 0, .int .i64 0] 27)).alloc (.cells #[.slice none 0 0, .int .i64 0, .int .i64 0] 34)) w.heap.size w.heap.size (.slice none 0 0) bkZ (w.heap.size + 1) (.slice none 0 0) bkZ := by
  refine ⟨BookAt.below (w := w.alloc (.cells #[.slice none 0 0, .int .i64 0, .int .i64 0] 27)) ⟨by simp, by simp [bkZ], by simp [bkZ], by simp, by simp, by simp, World.ownsRow_nil _ _ _ _, by simp [Value.ownBlock], Nat.le_refl _⟩ ((Below.refl _ _).alloc (Nat.le_refl _) _), ?_, by omega, by simp [Value.ownBlock], by simp [Value.ownBlock], by simp [Value.ownBlock]⟩
  generalize hW : w.alloc (.cells #[.slice none 0 0, .int .i64 0, .int .i64 0] 27) = W
  have e : w.heap.size + 1 = W.heap.size := by rw [← hW]; simp
  rw [e]
  exact ⟨by simp, by simp [bkZ], by simp [bkZ], by simp, by simp, by simp, World.ownsRow_nil _ _ _ _, by simp [Value.ownBlock], by omega⟩
end Go.Proofs.YtcfgacdcgljbaaaGreatDoor
