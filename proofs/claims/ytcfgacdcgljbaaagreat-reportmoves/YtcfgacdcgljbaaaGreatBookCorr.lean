/- The walk of (*book.Book).Correct. -/
import Derived.Test.YtcfgacdcgljbaaaGreatBookActs
namespace Go.Proofs.YtcfgacdcgljbaaaGreat
open Go.RowKit
set_option maxRecDepth 20000 in
set_option maxHeartbeats 4000000 in
theorem corr_miss {B pb : Nat} {sv : Value} {b : Bk} {w : World} (h : BookAt w B pb sv b) (hl : b.vs.length ≤ 1000000) (id : Int) (e : Ev) (hk : kIx b.vs id = -1) :
    Calls Tryz.prog 34 #[.pointer (some ⟨pb, 0, none⟩), .int .i64 id, evV e] w fun r w' => r = .returned (errV 7) ∧ Below w.heap.size w w' := by
  have hB1 : Below w.heap.size w (w.alloc (.cells (evC e).toArray 36)) := (Below.refl _ _).alloc (Nat.le_refl _) _
  have hcon := known_any (h.below hB1) hl id
  rw [hk] at hcon
  obtain ⟨id0, item, kind, qty, price, ofI, day⟩ := e
  unfold evV
  simp only
  clear h
  go_enter Tryz.func34, Tryz.ntmps34
  go_wp2_with fail
  refine hcon.mono ?_
  rintro r w1 ⟨rfl, hb⟩
  go_wp2
  go_ret
  exact ⟨rfl, hB1.trans (hb.mono (by simp))⟩
set_option maxRecDepth 20000 in
set_option maxHeartbeats 4000000 in
theorem corr_no {B pb : Nat} {sv : Value} {b : Bk} {w : World} (h : BookAt w B pb sv b) (hl : b.vs.length ≤ 1000000) (id : Int) (e : Ev) (he : EvW e) (k : Nat) (hk : kIx b.vs id = k) (hno : ¬ (Rt e ∧ b.vs.length < 120)) :
    Calls Tryz.prog 34 #[.pointer (some ⟨pb, 0, none⟩), .int .i64 id, evV e] w fun r w' => ∃ c, TakesE b e c ∧ c ≠ 0 ∧ r = .returned (errV c) ∧ Below w.heap.size w w' := by
  have hB1 : Below w.heap.size w (w.alloc (.cells (evC e).toArray 36)) := (Below.refl _ _).alloc (Nat.le_refl _) _
  have hcon := known_any (h.below hB1) hl id
  rw [hk] at hcon
  have hcon2 := fun W (hW : BookAt W B pb sv b) => takes_any hW hl e he
  have HT : Hid (∀ k, TakesE b e k → k ≠ 0) := fun k hk h0 => by
    rcases hk with ⟨h1, _⟩ | ⟨h1, _⟩ | ⟨_, h2⟩
    · omega
    · omega
    · exact hno h2
  have HE : Hid (EvAt (w.alloc (.cells (evC e).toArray 36)) w.heap.size e) := by unfold Hid evC; constructor <;> simp
  clear hno
  obtain ⟨id0, item, kind, qty, price, ofI, day⟩ := e
  unfold evV at hcon2 ⊢
  simp only at hcon2 ⊢
  go_enter Tryz.func34, Tryz.ntmps34
  go_wp2_with fail
  refine hcon.mono ?_
  rintro r w1 ⟨rfl, hb⟩
  have H1 := (h.below hB1).below hb
  have E1 := HE.out.below hb
  have v0 := E1.c0
  have v1 := E1.c1
  have v2 := E1.c2
  have v3 := E1.c3
  have v4 := E1.c4
  have v5 := E1.c5
  have v6 := E1.c6
  simp only at v0 v1 v2 v3 v4 v5 v6
  have hcon3 := hcon2 w1 H1
  clear hcon hcon2 HE
  go_wp2_with fail
  refine hcon3.mono ?_
  rintro r w2 ⟨c, hc, rfl, hb2⟩
  have hc0 := HT.out c hc
  have HK : Hid (TakesE b _ c) := hc
  clear hc
  unfold errV
  rw [if_neg hc0]
  go_wp2
  go_ret
  exact ⟨c, HK.out, hc0, by rw [errV, if_neg hc0]; rfl, (hB1.trans (hb.mono (by simp))).trans (hb2.mono (by have := hb.size; simp at this; omega))⟩
set_option maxRecDepth 20000 in
set_option maxHeartbeats 4000000 in
theorem corr_yes {B pb g cap : Nat} {b : Bk} {w : World} (h : BookAt w B pb (.slice (some ⟨g, 0, none⟩) b.vs.length cap) b) (h0 : 0 ≤ b.n) (h1 : b.n ≤ 1000000) (id : Int) (e : Ev) (he : EvW e) (k : Nat) (hkl : k < b.vs.length) (hk : kIx b.vs id = k) (hr : Rt e) (hlen : b.vs.length < 120) :
    Calls Tryz.prog 34 #[.pointer (some ⟨pb, 0, none⟩), .int .i64 id, evV e] w fun r w' => r = .returned (errV 0) ∧ ∃ sv', BookAt w' B pb sv' (corrB b k id e) ∧ Turned w w' pb (.slice (some ⟨g, 0, none⟩) b.vs.length cap) ∧ Fresh w (.slice (some ⟨g, 0, none⟩) b.vs.length cap) sv' := by
  have hl : b.vs.length ≤ 1000000 := by omega
  have hB1 : Below w.heap.size w (w.alloc (.cells (evC e).toArray 36)) := (Below.refl _ _).alloc (Nat.le_refl _) _
  have hcon := known_any (h.below hB1) hl id
  rw [hk] at hcon
  have hcon2 := fun W (hW : BookAt W B pb (.slice (some ⟨g, 0, none⟩) b.vs.length cap) b) => takes_any hW hl e he
  have HT : Hid (∀ k, TakesE b e k → k = 0) := fun k hk => by
    rcases hk with ⟨h1, h2⟩ | ⟨h1, h2, h3⟩ | ⟨h1, h2⟩
    · exact absurd hr h2
    · omega
    · exact h1
  have HE : Hid (EvAt (w.alloc (.cells (evC e).toArray 36)) w.heap.size e) := by unfold Hid evC; constructor <;> simp
  have hw3 := fun (W : World) (sv : Value) (b : Bk) (h : BookAt W B pb sv b) (hl : b.vs.length ≤ 1000000) => write_any h hl id e
  have HP : Hid (corrB b k id e = wrB ⟨setTo b.vs k (b.n + 1), b.n + 1, b.g⟩ id e) := rfl
  rw [HP.out]
  clear HP hr
  obtain ⟨id0, item, kind, qty, price, ofI, day⟩ := e
  unfold evV at hcon2 hw3 ⊢
  simp only at hcon2 hw3 ⊢
  go_enter Tryz.func34, Tryz.ntmps34
  go_wp2_with fail
  refine hcon.mono ?_
  rintro r w1 ⟨rfl, hb⟩
  have H1 := (h.below hB1).below hb
  have E1 := HE.out.below hb
  have T1 : Turned w w1 pb (.slice (some ⟨g, 0, none⟩) b.vs.length cap) := .of_below (hB1.trans (hb.mono (by simp)))
  have v0 := E1.c0
  have v1 := E1.c1
  have v2 := E1.c2
  have v3 := E1.c3
  have v4 := E1.c4
  have v5 := E1.c5
  have v6 := E1.c6
  simp only at v0 v1 v2 v3 v4 v5 v6
  have hcon3 := hcon2 w1 H1
  clear hcon hcon2 HE hB1 hb hk
  go_wp2_with fail
  refine hcon3.mono ?_
  rintro r w2 ⟨c, hc, rfl, hb2⟩
  obtain rfl := HT.out c hc
  have H2 := H1.below hb2
  have E2 := E1.below hb2
  have T2 := T1.trans (.of_below hb2) (Fresh.refl _ _)
  have c1 := H2.c1
  have f1 := H2.f1
  have hkz : (k : Int) < (b.vs.length : Int) := by omega
  clear hc hcon3 HT H1 E1 T1 hb2 v0 v1 v2 v3 v4 v5 v6
  unfold errV
  rw [if_pos rfl]
  go_wp2_with fail
  refine wp_region_turn [(.pure, 0), (.pure, 1), (.pure, 2), (.read, 3), (.pure, 4), (.pure, 5), (.pure, 6), (.pure, 7), (.read, 8), (.pure, 9), (.pure, 10), (.turn, 11)] (by kernel_rfl) (by kernel_rfl) ?_
  obtain ⟨W1, hW⟩ : ∃ W, W = (w2.setCell ⟨pb, 1, none⟩ (.int .i64 (b.n + 1))).drew := ⟨_, rfl⟩
  rw [← hW]
  have H3 : BookAt W1 B pb (.slice (some ⟨g, 0, none⟩) b.vs.length cap) ⟨b.vs, b.n + 1, b.g⟩ := by
    rw [hW]; exact (H2.put1 (b.n + 1)).below (below_drew _)
  have T3 : Turned w W1 pb (.slice (some ⟨g, 0, none⟩) b.vs.length cap) := by
    rw [hW]; exact (T2.trans (turned_set _ _ _ _ _) (Fresh.refl _ _)).trans (Turned.of_below (below_drew _)) (Fresh.refl _ _)
  have hpl : pb ≠ w.heap.size := by have := h.lt; omega
  have hgl : g ≠ w.heap.size := by have := (h.block g rfl).2; omega
  have E3 : EvAt W1 w.heap.size ⟨id0, item, kind, qty, price, ofI, day⟩ := by
    rw [hW]; exact (E2.set ⟨pb, 1, none⟩ _ hpl).below (below_drew _)
  clear hW c1 f1 H2 E2 T2
  have hcell := own_cell vrC_len H3.own k 8 hkl (by decide)
  have r8 := hcell.1
  have rf := hcell.2
  simp only [vrC, List.getElem?_cons_zero, List.getElem?_cons_succ] at r8
  clear hcell
  have hU := up_ne
  have hA := anyW_ne
  have g0 := fun n : Up W1 => n.cell H3.c0
  have g1 := fun n : Up W1 => n.cell H3.c1
  simp only at g0 g1
  repeat (first | refine turn_p rfl ?_ | refine turn_q rfl ?_); go_big_quiet_step (fail); refine wpQuiet_nil ?_
  refine turn_t rfl ?_
  go_wp2_with fail
  refine ⟨rfl, ?_⟩
  refine turn_nil ?_
  have H4 := BookAt.row (b := ⟨b.vs, b.n + 1, b.g⟩) H3 k hkl (b.n + 1)
  have T4 := T3.trans (turned_row W1 g (k * 9 + 8) pb (.slice (some ⟨g, 0, none⟩) b.vs.length cap) (.int .i64 (b.n + 1)) rfl) (Fresh.refl _ _)
  have E4 := E3.set ⟨g, k * 9 + 8, none⟩ (.int .i64 (b.n + 1)) hgl
  simp only at H4
  clear g0 g1 r8 rf
  obtain ⟨W2, hW2⟩ : ∃ W, W = W1.setCell ⟨g, k * 9 + 8, none⟩ (.int .i64 (b.n + 1)) := ⟨_, rfl⟩
  rw [← hW2] at H4 T4 E4 ⊢
  clear hW2
  have v0 := E4.c0
  have v1 := E4.c1
  have v2 := E4.c2
  have v3 := E4.c3
  have v4 := E4.c4
  have v5 := E4.c5
  have v6 := E4.c6
  simp only at v0 v1 v2 v3 v4 v5 v6
  have hw4 := hw3 W2 _ _ H4 (by simp only [setTo_len]; exact hl)
  clear hw3
  go_wp2_with fail
  refine hw4.mono ?_
  rintro r w5 ⟨rfl, sv', H5, T5, F5⟩
  have T6 := T4.trans T5 (Fresh.refl _ _)
  have F6 := F5.grow T4.size
  go_wp2
  go_ret
  exact ⟨by rw [errV, if_pos rfl]; rfl, sv', H5, T6, F6⟩
end Go.Proofs.YtcfgacdcgljbaaaGreat
