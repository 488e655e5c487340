/- The walk of the document's own Correct. (Written by gen_refacts.py.) -/
import Derived.Test.YtihkeblhidflpaaGreatDoorRefBookActs
namespace Go.Proofs.YtihkeblhidflpaaGreatDoor
open Go.RowKit
set_option maxRecDepth 20000 in
set_option maxHeartbeats 4000000 in
theorem rcorr_miss {B pb : Nat} {sv : Value} {b : Bk} {w : World} (h : RAt w B pb sv b) (hl : b.vs.length ≤ 1000000) (id : Int) (e : Ev) (hk : kIx b.vs id = -1) :
    Calls Tryz.prog 16 #[.pointer (some ⟨pb, 0, none⟩), .int .i64 id, evV e] w fun r w' => r = .returned (.int .i64 7) ∧ Below w.heap.size w w' := by
  have hB1 : Below w.heap.size w (w.alloc (.cells (evC e).toArray 35)) := (Below.refl _ _).alloc (Nat.le_refl _) _
  have hcon := rknown_any (h.below hB1) hl id
  rw [hk] at hcon
  obtain ⟨id0, item, kind, qty, price, ofI, day⟩ := e
  unfold evV
  simp only
  clear h
  go_enter Tryz.func16, Tryz.ntmps16
  go_wp2_with fail
  refine hcon.mono ?_
  rintro r w1 ⟨rfl, hb⟩
  go_wp2
  go_ret
  exact ⟨rfl, hB1.trans (hb.mono (by simp))⟩
set_option maxRecDepth 20000 in
set_option maxHeartbeats 4000000 in
theorem rcorr_bad {B pb : Nat} {sv : Value} {b : Bk} {w : World} (h : RAt w B pb sv b) (hl : b.vs.length ≤ 1000000) (id : Int) (e : Ev) (he : EvW e) (k : Nat) (hk : kIx b.vs id = k) (hr : ¬ Rt e) :
    Calls Tryz.prog 16 #[.pointer (some ⟨pb, 0, none⟩), .int .i64 id, evV e] w fun r w' => r = .returned (.int .i64 1) ∧ Below w.heap.size w w' := by
  have hB1 : Below w.heap.size w (w.alloc (.cells (evC e).toArray 35)) := (Below.refl _ _).alloc (Nat.le_refl _) _
  have hrt := fun W => rright_any e W he
  have HE : Hid (EvAt (w.alloc (.cells (evC e).toArray 35)) w.heap.size e) := by unfold Hid evC; constructor <;> simp
  have hcon := rknown_any (h.below hB1) hl id
  rw [hk] at hcon
  have HR : Hid (¬ Rt e) := hr
  clear hr
  generalize Rt e = P at hrt HR
  obtain ⟨id0, item, kind, qty, price, ofI, day⟩ := e
  unfold evV at hrt ⊢
  simp only at hrt ⊢
  go_enter Tryz.func16, Tryz.ntmps16
  go_wp2_with fail
  refine hcon.mono ?_
  rintro r w1 ⟨rfl, hb⟩
  have H1 := (h.below hB1).below hb
  have E1 := HE.out.below hb
  have v0 := E1.c0
  have v1 := E1.c1
  have v2 := E1.c2
  have v3 := E1.c3
  have v4 := E1.c4
  have v5 := E1.c5
  have v6 := E1.c6
  simp only at v0 v1 v2 v3 v4 v5 v6
  clear hcon HE H1 h
  go_wp2_with fail
  refine (hrt _).mono ?_
  rintro r w2 ⟨⟨bv, rfl, hbv⟩, hb2⟩
  obtain rfl : bv = false := by
    cases bv with
    | false => rfl
    | true => exact absurd (hbv.1 rfl) HR.out
  clear hrt HR hbv
  go_wp2
  go_ret
  exact ⟨rfl, (hB1.trans (hb.mono (by simp))).trans (hb2.mono (by have := hb.size; simp at this; omega))⟩
set_option maxRecDepth 20000 in
set_option maxHeartbeats 4000000 in
theorem rcorr_full {B pb : Nat} {sv : Value} {b : Bk} {w : World} (h : RAt w B pb sv b) (hl : b.vs.length ≤ 1000000) (id : Int) (e : Ev) (he : EvW e) (k : Nat) (hk : kIx b.vs id = k) (hr : Rt e) (hf : 120 ≤ b.vs.length) :
    Calls Tryz.prog 16 #[.pointer (some ⟨pb, 0, none⟩), .int .i64 id, evV e] w fun r w' => r = .returned (.int .i64 12) ∧ Below w.heap.size w w' := by
  have hB1 : Below w.heap.size w (w.alloc (.cells (evC e).toArray 35)) := (Below.refl _ _).alloc (Nat.le_refl _) _
  have hrt := fun W => rright_any e W he
  have HE : Hid (EvAt (w.alloc (.cells (evC e).toArray 35)) w.heap.size e) := by unfold Hid evC; constructor <;> simp
  obtain ⟨ad, cap, rfl⟩ := own_len h.own
  have hcon := rknown_any (h.below hB1) hl id
  rw [hk] at hcon
  have HR : Hid (Rt e) := hr
  have hz : (120 : Int) ≤ (b.vs.length : Int) := by omega
  clear hr hf
  generalize Rt e = P at hrt HR
  obtain ⟨id0, item, kind, qty, price, ofI, day⟩ := e
  unfold evV at hrt ⊢
  simp only at hrt ⊢
  go_enter Tryz.func16, Tryz.ntmps16
  go_wp2_with fail
  refine hcon.mono ?_
  rintro r w1 ⟨rfl, hb⟩
  have H1 := (h.below hB1).below hb
  have E1 := HE.out.below hb
  have v0 := E1.c0
  have v1 := E1.c1
  have v2 := E1.c2
  have v3 := E1.c3
  have v4 := E1.c4
  have v5 := E1.c5
  have v6 := E1.c6
  simp only at v0 v1 v2 v3 v4 v5 v6
  clear hcon HE h
  go_wp2_with fail
  refine (hrt _).mono ?_
  rintro r w2 ⟨⟨bv, rfl, hbv⟩, hb2⟩
  obtain rfl : bv = true := hbv.2 HR.out
  have c0 := (H1.below hb2).c0
  clear hrt HR hbv H1 E1 v0 v1 v2 v3 v4 v5 v6 hl hk
  go_wp2
  go_ret
  exact ⟨rfl, (hB1.trans (hb.mono (by simp))).trans (hb2.mono (by have := hb.size; simp at this; omega))⟩
set_option maxRecDepth 20000 in
set_option maxHeartbeats 4000000 in
theorem rcorr_yes {B pb g cap : Nat} {b : Bk} {w : World} (h : RAt w B pb (.slice (some ⟨g, 0, none⟩) b.vs.length cap) b) (h0 : 0 ≤ b.n) (h1 : b.n ≤ 1000000) (id : Int) (e : Ev) (he : EvW e) (k : Nat) (hkl : k < b.vs.length) (hk : kIx b.vs id = k) (hr : Rt e) (hlen : b.vs.length < 120) :
    Calls Tryz.prog 16 #[.pointer (some ⟨pb, 0, none⟩), .int .i64 id, evV e] w fun r w' => r = .returned (.int .i64 0) ∧ ∃ sv', RAt w' B pb sv' (corrB b k id e) ∧ Turned w w' pb (.slice (some ⟨g, 0, none⟩) b.vs.length cap) ∧ Fresh w (.slice (some ⟨g, 0, none⟩) b.vs.length cap) sv' := by
  obtain ⟨i0, hi, hz0, hz1, hz2⟩ := info_parts Tryz.infoRv
  have hl : b.vs.length ≤ 1000000 := by omega
  have hB1 : Below w.heap.size w (w.alloc (.cells (evC e).toArray 35)) := (Below.refl _ _).alloc (Nat.le_refl _) _
  have hrt := fun W => rright_any e W he
  have HE : Hid (EvAt (w.alloc (.cells (evC e).toArray 35)) w.heap.size e) := by unfold Hid evC; constructor <;> simp
  have hcon := rknown_any (h.below hB1) hl id
  rw [hk] at hcon
  have HR : Hid (Rt e) := hr
  have hz : ¬ (120 : Int) ≤ (b.vs.length : Int) := by omega
  clear hr
  generalize Rt e = P at hrt HR
  have HP : Hid (corrB b k id e = { (⟨setTo b.vs k (b.n + 1), b.n + 1, b.g⟩ : Bk) with vs := setTo b.vs k (b.n + 1) ++ [⟨{ e with id := id }, b.n + 1, 0⟩] }) := rfl
  rw [HP.out]
  clear HP
  have HLL : Hid ((setTo b.vs k (b.n + 1)).length < 120) := by unfold Hid; rw [setTo_len]; exact hlen
  obtain ⟨id0, item, kind, qty, price, ofI, day⟩ := e
  unfold evV at hrt ⊢
  simp only at hrt ⊢
  go_enter Tryz.func16, Tryz.ntmps16
  go_wp2_with fail
  refine hcon.mono ?_
  rintro r w1 ⟨rfl, hb⟩
  have H1 := (h.below hB1).below hb
  have E1 := HE.out.below hb
  have v0 := E1.c0
  have v1 := E1.c1
  have v2 := E1.c2
  have v3 := E1.c3
  have v4 := E1.c4
  have v5 := E1.c5
  have v6 := E1.c6
  simp only at v0 v1 v2 v3 v4 v5 v6
  have T1 : Turned w w1 pb (.slice (some ⟨g, 0, none⟩) b.vs.length cap) := .of_below (hB1.trans (hb.mono (by simp)))
  have hl1 : w.heap.size < w1.heap.size := by have := hb.size; simp at this; omega
  have e0f1 : w1.frozen? ⟨w.heap.size, 0, none⟩ = false := by
    rw [hb.frozen (p := ⟨w.heap.size, 0, none⟩) (by simp)]; simp
  clear hcon HE
  go_wp2_with fail
  refine (hrt _).mono ?_
  rintro r w2 ⟨⟨bv, rfl, hbv⟩, hb2⟩
  obtain rfl : bv = true := hbv.2 HR.out
  have H2 := H1.below hb2
  have E2 := E1.below hb2
  have T2 := T1.trans (.of_below hb2) (Fresh.refl _ _)
  have c0 := H2.c0
  have c1 := H2.c1
  have f1 := H2.f1
  have e0 := E2.c0
  have e0f : w2.frozen? ⟨w.heap.size, 0, none⟩ = false := (hb2.frozen (p := ⟨w.heap.size, 0, none⟩) hl1).trans e0f1
  have hpl : pb ≠ w.heap.size := by have := h.lt; omega
  have hpl2 : w.heap.size ≠ pb := fun e => hpl e.symm
  have hgl : g ≠ w.heap.size := by have := (h.block g rfl).2; omega
  have hkz : (k : Int) < (b.vs.length : Int) := by omega
  clear hrt HR hbv H1 E1 T1 v0 v1 v2 v3 v4 v5 v6 e0f1 hk
  go_wp2_with fail
  refine wp_region_turn [(.pure, 0), (.pure, 1), (.pure, 2), (.read, 3), (.pure, 4), (.pure, 5), (.pure, 6), (.pure, 7), (.read, 8), (.pure, 9), (.pure, 10), (.turn, 11)] (by kernel_rfl) (by kernel_rfl) ?_
  obtain ⟨W1, hW⟩ : ∃ W, W = ((w2.setCell ⟨pb, 1, none⟩ (.int .i64 (b.n + 1))).setCell ⟨w.heap.size, 0, none⟩ (.int .i64 id)).drew := ⟨_, rfl⟩
  rw [← hW]
  have H3 : RAt W1 B pb (.slice (some ⟨g, 0, none⟩) b.vs.length cap) ⟨b.vs, b.n + 1, b.g⟩ := by
    rw [hW]; exact (RAt.other (H2.put1 (b.n + 1)) hpl2 (fun e => by have := (h.block _ e).2; omega) _ _).below (below_drew _)
  have T2b : Turned w W1 pb (.slice (some ⟨g, 0, none⟩) b.vs.length cap) := by
    rw [hW]; exact turned_new (T2.trans (turned_set _ _ _ _ _) (Fresh.refl _ _)) (Nat.le_refl _) _ _
  have E3 : EvAt W1 w.heap.size ⟨id, item, kind, qty, price, ofI, day⟩ := by
    rw [hW]; exact ((E2.set ⟨pb, 1, none⟩ _ hpl).id_set id).below (below_drew _)
  clear hW c0 c1 f1 e0 e0f H2 E2 T2 hB1 hb hb2
  have hcell := own_cell vrC_len H3.own k 8 hkl (by decide)
  have r8 := hcell.1
  have rf := hcell.2
  simp only [vrC, List.getElem?_cons_zero, List.getElem?_cons_succ] at r8
  clear hcell
  have hU := up_ne
  have hA := anyW_ne
  have g0 := fun n : Up W1 => n.cell H3.c0
  have g1 := fun n : Up W1 => n.cell H3.c1
  simp only at g0 g1
  repeat (first | refine turn_p rfl ?_ | refine turn_q rfl ?_); go_big_quiet_step (fail); refine wpQuiet_nil ?_
  refine turn_t rfl ?_
  go_wp2_with fail
  refine ⟨rfl, ?_⟩
  refine turn_nil ?_
  have H4 := RAt.row (b := ⟨b.vs, b.n + 1, b.g⟩) H3 k hkl (b.n + 1)
  have T4 := T2b.trans (turned_row W1 g (k * 9 + 8) pb (.slice (some ⟨g, 0, none⟩) b.vs.length cap) (.int .i64 (b.n + 1)) rfl) (Fresh.refl _ _)
  have E4 := E3.set ⟨g, k * 9 + 8, none⟩ (.int .i64 (b.n + 1)) hgl
  simp only at H4
  clear g0 g1 r8 rf hU hA
  obtain ⟨W2, hW2⟩ : ∃ W, W = W1.setCell ⟨g, k * 9 + 8, none⟩ (.int .i64 (b.n + 1)) := ⟨_, rfl⟩
  rw [← hW2] at H4 T4 E4 ⊢
  clear hW2 H3 T2b E3
  go_wp2_with fail
  refine wp_region_turn [(.pure, 0), (.pure, 1), (.pure, 2), (.pure, 3), (.read, 4), (.read, 5), (.pure, 6), (.pure, 7), (.pure, 8), (.read, 9), (.pure, 10), (.make, 11), (.turn, 12), (.pure, 13), (.pure, 14), (.turn, 15)] (by kernel_rfl) (by kernel_rfl) ?_
  obtain ⟨W0, hW⟩ : ∃ W, W = W2.drew := ⟨_, rfl⟩
  rw [← hW]
  have HB : RAt W0 B pb (.slice (some ⟨g, 0, none⟩) b.vs.length cap) ⟨setTo b.vs k (b.n + 1), b.n + 1, b.g⟩ := by
    rw [hW]; exact H4.below (below_drew _)
  have T3 : Turned w W0 pb (.slice (some ⟨g, 0, none⟩) b.vs.length cap) := by
    rw [hW]; exact T4.trans (Turned.of_below (below_drew _)) (Fresh.refl _ _)
  have hE : EvAt W0 w.heap.size ⟨id, item, kind, qty, price, ofI, day⟩ := by
    rw [hW]; exact E4.below (below_drew _)
  clear hW H4 T4 E4
  have hU := up_ne
  have hA := anyW_ne
  have f0 := fun n : Up W0 => (hE.up n).c0
  have f1 := fun n : Up W0 => (hE.up n).c1
  have f2 := fun n : Up W0 => (hE.up n).c2
  have f3 := fun n : Up W0 => (hE.up n).c3
  have f4 := fun n : Up W0 => (hE.up n).c4
  have f5 := fun n : Up W0 => (hE.up n).c5
  have f6 := fun n : Up W0 => (hE.up n).c6
  have g0 := fun n : Up W0 => n.cell HB.c0
  have g1 := fun n : Up W0 => n.cell HB.c1
  simp only at f0 f1 f2 f3 f4 f5 f6 g0 g1
  repeat (first | refine turn_p rfl ?_ | refine turn_q rfl ?_); go_big_quiet_step (fail); refine wpQuiet_nil ?_
  refine turn_n rfl ?_
  go_wp2_with fail
  refine ⟨rfl, (Below.refl _ _).alloc (Nat.le_refl _) _, ?_⟩
  clear f0 f1 f2 f3 f4 f5 f6 g0 g1
  refine turn_t rfl ?_
  refine wpList_append_new _ rfl _ _ 29 rfl B 44 i0 vrZ 9 80 Tryz.underlying29 hi hz0 hz1 hz2 rfl (by decide) (.slice (some ⟨g, 0, none⟩) b.vs.length cap) _ _ rfl (HB.own.alloc _) ⟨W0.heap.size, 0, none⟩ 1 1 (vrC ⟨⟨id, item, kind, qty, price, ofI, day⟩, (b.n + 1), 0⟩) rfl rfl ?d1 ?d2 ?d3 ?d4 ?d5 (by decide) ?_
  case d1 => exact cells_of_list rfl
  case d2 => exact vrC_one _
  case d3 => have := HLL.out; simp only [maxLen]; omega
  case d4 => have := HLL.out; simp only; omega
  case d5 => have := HB.ge; have := HB.lt; simp; omega
  intro v' w2 hown2 hgr hfr
  obtain ⟨W1, hW1⟩ : ∃ W, W = W0.alloc (.cells (vrC ⟨⟨id, item, kind, qty, price, ofI, day⟩, (b.n + 1), 0⟩).toArray 44) := ⟨_, rfl⟩
  have hB1 : Below W0.heap.size W0 W1 := by rw [hW1]; exact (Below.refl _ _).alloc (Nat.le_refl _) _
  have HB1 := HB.below hB1
  have E1 := hE.below hB1
  have hgr' : W1.grownBy w2 (Value.ownBlock (.slice (some ⟨g, 0, none⟩) b.vs.length cap)) := by rw [hW1]; exact hgr
  have e2 : w2.heap[pb]? = W1.heap[pb]? := hgr'.block pb HB1.lt (fun e => HB.ne e.symm)
  have k0 : w2.cell? ⟨pb, 0, none⟩ = some (.slice (some ⟨g, 0, none⟩) b.vs.length cap) := (World.cell?_of_block (a := ⟨pb, 0, none⟩) e2).trans HB1.c0
  have k1 : w2.cell? ⟨pb, 1, none⟩ = some (.int .i64 (b.n + 1)) := (World.cell?_of_block (a := ⟨pb, 1, none⟩) e2).trans HB1.c1
  have k2 : w2.cell? ⟨pb, 2, none⟩ = some (.int .i64 b.g) := (World.cell?_of_block (a := ⟨pb, 2, none⟩) e2).trans HB1.c2
  have z0 : w2.frozen? ⟨pb, 0, none⟩ = false := (World.frozen?_of_block (a := ⟨pb, 0, none⟩) e2).trans HB1.f0
  have z1 : w2.frozen? ⟨pb, 1, none⟩ = false := (World.frozen?_of_block (a := ⟨pb, 1, none⟩) e2).trans HB1.f1
  have z2 : w2.frozen? ⟨pb, 2, none⟩ = false := (World.frozen?_of_block (a := ⟨pb, 2, none⟩) e2).trans HB1.f2
  have HO : Hid (w2.ownsRow B 44 9 v' ((setTo b.vs k (b.n + 1)).length + 1) ((setTo b.vs k (b.n + 1)).flatMap vrC ++ vrC ⟨⟨id, item, kind, qty, price, ofI, day⟩, (b.n + 1), 0⟩)) := hown2
  have hg2 : W1.heap.size ≤ w2.heap.size := hgr'.size
  have hfv : Fresh W0 (.slice (some ⟨g, 0, none⟩) b.vs.length cap) v' := hfr.grow (by simp)
  have hbx : w2.heap[w.heap.size]? = W1.heap[w.heap.size]? := hgr'.block w.heap.size (World.block_lt_of_cell? _ _ E1.c0) (fun e => by have := (h.block _ e.symm).2; omega)
  have x0 : w2.cell? ⟨w.heap.size, 0, none⟩ = some (.int .i64 id) := (World.cell?_of_block (a := ⟨w.heap.size, 0, none⟩) hbx).trans E1.c0
  clear hown2 hgr hfr hW1
  obtain ⟨g2, cap2, hv2, hg2B, hg2l, _⟩ : ∃ g cap, v' = .slice (some ⟨g, 0, none⟩) ((setTo b.vs k (b.n + 1)).length + 1) cap ∧ B ≤ g ∧ g < w2.heap.size ∧ True := by
    rcases own_form HO.out with ⟨_, hn, _⟩ | ⟨g, cap, hv, h1, h2, _⟩
    · omega
    · exact ⟨g, cap, hv, h1, h2, trivial⟩
  subst hv2
  have hne : Value.ownBlock (.slice (some ⟨g2, 0, none⟩) ((setTo b.vs k (b.n + 1)).length + 1) cap2) ≠ some pb := fun e => by
    rcases hfv pb e with h1 | h1
    · exact HB.ne h1
    · have := HB.lt; omega
  have hfin := RAt.put0 (b := ⟨setTo b.vs k (b.n + 1), b.n + 1, b.g⟩) (vs := (setTo b.vs k (b.n + 1)) ++ [⟨⟨id, item, kind, qty, price, ofI, day⟩, (b.n + 1), 0⟩]) k0 k1 k2 z0 z1 z2 (by simpa using HO.out) hne HB.ge
  have HFIN : Hid _ := hfin
  have htur : Turned w (w2.setCell ⟨pb, 0, none⟩ (.slice (some ⟨g2, 0, none⟩) ((setTo b.vs k (b.n + 1)).length + 1) cap2)) pb (.slice (some ⟨g, 0, none⟩) b.vs.length cap) :=
    (T3.trans ((Turned.of_below hB1).trans (grown_turned hgr') (Fresh.refl _ _)) (Fresh.refl _ _)).trans (turned_set _ _ _ _ _) (Fresh.refl _ _)
  have hfw : Fresh w (.slice (some ⟨g, 0, none⟩) b.vs.length cap) (.slice (some ⟨g2, 0, none⟩) ((setTo b.vs k (b.n + 1)).length + 1) cap2) := hfv.grow T3.size
  have HTUR : Hid _ := htur
  have HFW : Hid _ := hfw
  clear hfin htur hfw
  go_wp2_with fail
  refine ⟨rfl, ?_⟩
  repeat (first | refine turn_p rfl ?_ | refine turn_q rfl ?_); go_big_quiet_step (fail); refine wpQuiet_nil ?_
  refine turn_t rfl ?_
  go_wp2_with fail
  refine ⟨rfl, ?_⟩
  refine turn_nil ?_
  have hpw : (⟨pb, 0, none⟩ : Addr) ≠ ⟨w.heap.size, 0, none⟩ := fun e => by injection e with e; have := h.lt; omega
  have x1 : (w2.setCell ⟨pb, 0, none⟩ (.slice (some ⟨g2, 0, none⟩) ((setTo b.vs k (b.n + 1)).length + 1) cap2)).cell? ⟨w.heap.size, 0, none⟩ = some (.int .i64 id) := (set_other hpw).trans x0
  clear x0 k0 k1 k2 z0 z1 z2 hpw
  go_wp2
  go_ret
  exact ⟨rfl, _, HFIN.out, HTUR.out, HFW.out⟩
end Go.Proofs.YtihkeblhidflpaaGreatDoor
