/- The walks of (*book.Book).Void, Correct, Post. -/
import Derived.Test.YtcfgacdcgljbaaaGreatBookWrite
import Derived.BigRegion
namespace Go.Proofs.YtcfgacdcgljbaaaGreat
open Go.RowKit
/-- The version at k is known up to a turn. -/
def setTo : List Vr → Nat → Int → List Vr
  | [], _, _ => []
  | v :: l, 0, t => ⟨v.ev, v.fr, t⟩ :: l
  | v :: l, k + 1, t => v :: setTo l k t
theorem setTo_is : ∀ (l : List Vr) (k : Nat) (t : Int) (h : k < l.length), setTo l k t = l.set k ⟨l[k].ev, l[k].fr, t⟩
  | [], k, _, h => absurd h (Nat.not_lt_zero _)
  | v :: l, 0, t, _ => rfl
  | v :: l, k + 1, t, h => by simp only [setTo, List.set_cons_succ, List.getElem_cons_succ]; rw [setTo_is l k t (by simpa using h)]
theorem setTo_len : ∀ (l : List Vr) (k : Nat) (t : Int), (setTo l k t).length = l.length
  | [], _, _ => rfl
  | v :: l, 0, t => rfl
  | v :: l, k + 1, t => by simp only [setTo, List.length_cons, setTo_len l k t]
/-- A book, whose version at k is known up to the next turn. -/
def endB (b : Bk) (k : Nat) : Bk := ⟨setTo b.vs k (b.n + 1), b.n + 1, b.g⟩
theorem BookAt.row {w : World} {B pb g cap : Nat} {b : Bk} (h : BookAt w B pb (.slice (some ⟨g, 0, none⟩) b.vs.length cap) b) (k : Nat) (hk : k < b.vs.length) (t : Int) :
    BookAt (w.setCell ⟨g, k * 9 + 8, none⟩ (.int .i64 t)) B pb (.slice (some ⟨g, 0, none⟩) b.vs.length cap) ⟨setTo b.vs k t, b.n, b.g⟩ := by
  have hne : g ≠ pb := fun e => h.ne (by simp [Value.ownBlock, e])
  have e : ((setTo b.vs k t).flatMap vrC) = (b.vs.flatMap vrC).set (k * 9 + 8) (.int .i64 t) := by
    rw [setTo_is _ _ _ hk]
    exact flatMap_set vrC 9 vrC_len 8 _ (by decide) _ _ k hk rfl
  have c (o : Nat) : (⟨g, k * 9 + 8, none⟩ : Addr) ≠ ⟨pb, o, none⟩ := fun e => hne (by injection e)
  refine ⟨(set_other (c 0)).trans h.c0, (set_other (c 1)).trans h.c1, (set_other (c 2)).trans h.c2, set_frz.trans h.f0, set_frz.trans h.f1, set_frz.trans h.f2, ?_, h.ne, h.ge⟩
  show World.ownsRow _ _ _ _ _ (setTo b.vs k t).length ((setTo b.vs k t).flatMap vrC)
  rw [e, setTo_len]
  exact own_set h.own _ _
set_option maxRecDepth 20000 in
set_option maxHeartbeats 4000000 in
theorem void_no {B pb : Nat} {sv : Value} {b : Bk} {w : World} (h : BookAt w B pb sv b) (hl : b.vs.length ≤ 1000000) (id : Int) (hk : kIx b.vs id = -1) :
    Calls Tryz.prog 35 #[.pointer (some ⟨pb, 0, none⟩), .int .i64 id] w fun r w' => r = .returned (errV 7) ∧ Below w.heap.size w w' := by
  have hcon := known_any h hl id
  rw [hk] at hcon
  clear h
  go_enter Tryz.func35, Tryz.ntmps35
  go_wp2_with fail
  refine hcon.mono ?_
  rintro e w' ⟨rfl, hb⟩
  go_wp2
  go_ret
  exact ⟨rfl, hb⟩
set_option maxRecDepth 20000 in
set_option maxHeartbeats 4000000 in
theorem void_yes {B pb g cap : Nat} {b : Bk} {w : World} (h : BookAt w B pb (.slice (some ⟨g, 0, none⟩) b.vs.length cap) b) (hl : b.vs.length ≤ 1000000) (h0 : 0 ≤ b.n) (h1 : b.n ≤ 1000000) (id : Int) (k : Nat) (hkl : k < b.vs.length) (hk : kIx b.vs id = k) :
    Calls Tryz.prog 35 #[.pointer (some ⟨pb, 0, none⟩), .int .i64 id] w fun r w' => r = .returned (errV 0) ∧ BookAt w' B pb (.slice (some ⟨g, 0, none⟩) b.vs.length cap) (endB b k) ∧ Turned w w' pb (.slice (some ⟨g, 0, none⟩) b.vs.length cap) := by
  have hcon := known_any h hl id
  rw [hk] at hcon
  go_enter Tryz.func35, Tryz.ntmps35
  go_wp2_with fail
  refine hcon.mono ?_
  rintro e w1 ⟨rfl, hb⟩
  have H1 := h.below hb
  have c0 := H1.c0
  have c1 := H1.c1
  have f1 := H1.f1
  have hne : g ≠ pb := fun e => h.ne (by simp [Value.ownBlock, e])
  have hcell := (own_cell vrC_len H1.own k 8 hkl (by decide))
  have r8 := hcell.1
  have rf := hcell.2
  simp only [vrC, List.getElem?_cons_zero, List.getElem?_cons_succ] at r8
  clear hcell hcon
  have hkz : (k : Int) < (b.vs.length : Int) := by omega
  go_wp2_with fail
  refine wp_region_turn [(.pure, 0), (.pure, 1), (.pure, 2), (.read, 3), (.pure, 4), (.pure, 5), (.pure, 6), (.pure, 7), (.read, 8), (.pure, 9), (.pure, 10), (.turn, 11)] (by kernel_rfl) (by kernel_rfl) ?_
  obtain ⟨W1, hW⟩ : ∃ W, W = (w1.setCell ⟨pb, 1, none⟩ (.int .i64 (b.n + 1))).drew := ⟨_, rfl⟩
  rw [← hW]
  have H2 : BookAt W1 B pb (.slice (some ⟨g, 0, none⟩) b.vs.length cap) ⟨b.vs, b.n + 1, b.g⟩ := by
    rw [hW]; exact (H1.put1 (b.n + 1)).below (below_drew _)
  have T2 : Turned w W1 pb (.slice (some ⟨g, 0, none⟩) b.vs.length cap) := by
    rw [hW]; exact ((Turned.of_below hb).trans (turned_set _ _ _ _ _) (Fresh.refl _ _)).trans (Turned.of_below (below_drew _)) (Fresh.refl _ _)
  clear hW c0 c1 f1 r8 rf hk
  have hcell := own_cell vrC_len H2.own k 8 hkl (by decide)
  have r8 := hcell.1
  have rf := hcell.2
  simp only [vrC, List.getElem?_cons_zero, List.getElem?_cons_succ] at r8
  clear hcell
  have hU := up_ne
  have hA := anyW_ne
  have g0 := fun n : Up W1 => n.cell H2.c0
  have g1 := fun n : Up W1 => n.cell H2.c1
  simp only at g0 g1
  repeat (first | refine turn_p rfl ?_ | refine turn_q rfl ?_); go_big_quiet_step (fail); refine wpQuiet_nil ?_
  refine turn_t rfl ?_
  go_wp2_with fail
  refine ⟨rfl, ?_⟩
  refine turn_nil ?_
  have hfin := BookAt.row (b := ⟨b.vs, b.n + 1, b.g⟩) H2 k hkl (b.n + 1)
  have htur := T2.trans (turned_row W1 g (k * 9 + 8) pb (.slice (some ⟨g, 0, none⟩) b.vs.length cap) (.int .i64 (b.n + 1)) rfl) (Fresh.refl _ _)
  go_wp2
  go_ret
  exact ⟨rfl, hfin, htur⟩
theorem EvAt.set {w : World} {c : Nat} {e : Ev} (h : EvAt w c e) (a : Addr) (v : Value) (hne : a.block ≠ c) : EvAt (w.setCell a v) c e := by
  have o (k : Nat) : a ≠ ⟨c, k, none⟩ := fun e => hne (by rw [e])
  exact ⟨(set_other (o 0)).trans h.c0, (set_other (o 1)).trans h.c1, (set_other (o 2)).trans h.c2, (set_other (o 3)).trans h.c3, (set_other (o 4)).trans h.c4, (set_other (o 5)).trans h.c5, (set_other (o 6)).trans h.c6⟩
/-- A book behind Post, behind Correct. -/
def postB (b : Bk) (e : Ev) : Bk := wrB ⟨b.vs, b.n + 1, b.g + 1⟩ (b.g + 1) e
def corrB (b : Bk) (k : Nat) (id : Int) (e : Ev) : Bk := wrB (endB b k) id e
set_option maxRecDepth 20000 in
set_option maxHeartbeats 4000000 in
theorem post_no {B pb : Nat} {sv : Value} {b : Bk} {w : World} (h : BookAt w B pb sv b) (hl : b.vs.length ≤ 1000000) (e : Ev) (he : EvW e) (hno : ¬ (Rt e ∧ b.vs.length < 120)) :
    Calls Tryz.prog 14 #[.pointer (some ⟨pb, 0, none⟩), evV e] w fun r w' => ∃ k, TakesE b e k ∧ k ≠ 0 ∧ r = .returned (.tuple #[.int .i64 0, errV k]) ∧ Below w.heap.size w w' := by
  have hB1 : Below w.heap.size w (w.alloc (.cells (evC e).toArray 36)) := (Below.refl _ _).alloc (Nat.le_refl _) _
  have hcon := takes_any (h.below hB1) hl e he
  have HN : Hid (¬ (Rt e ∧ b.vs.length < 120)) := hno
  have HT : Hid (∀ k, TakesE b e k → k ≠ 0) := fun k hk h0 => by
    rcases hk with ⟨h1, _⟩ | ⟨h1, _⟩ | ⟨_, h2⟩
    · omega
    · omega
    · exact hno h2
  obtain ⟨id0, item, kind, qty, price, ofI, day⟩ := e
  unfold evV at hcon ⊢
  simp only at hcon ⊢
  clear h hno
  go_enter Tryz.func14, Tryz.ntmps14
  go_wp2_with fail
  refine hcon.mono ?_
  rintro r w1 ⟨k, hk, rfl, hb⟩
  have hk0 := HT.out k hk
  have HK : Hid (TakesE b _ k) := hk
  clear hk hcon
  unfold errV
  rw [if_neg hk0]
  go_wp2
  refine bodyPost_ret (v := .tuple #[.int .i64 0, .iface 89 (.int .i64 k)]) (by simp [results, Tryz.results14, go_sem]) rfl ⟨k, HK.out, hk0, by rw [errV, if_neg hk0], hB1.trans (hb.mono (by simp))⟩
set_option maxRecDepth 20000 in
set_option maxHeartbeats 4000000 in
theorem post_yes {B pb : Nat} {sv : Value} {b : Bk} {w : World} (h : BookAt w B pb sv b) (h0 : 0 ≤ b.n) (h1 : b.n ≤ 1000000) (g0 : 0 ≤ b.g) (g1 : b.g ≤ 1000000) (e : Ev) (he : EvW e) (hr : Rt e) (hlen : b.vs.length < 120) :
    Calls Tryz.prog 14 #[.pointer (some ⟨pb, 0, none⟩), evV e] w fun r w' => r = .returned (.tuple #[.int .i64 (b.g + 1), errV 0]) ∧ ∃ sv', BookAt w' B pb sv' (postB b e) ∧ Turned w w' pb sv ∧ Fresh w sv sv' := by
  have hl : b.vs.length ≤ 1000000 := by omega
  have hB1 : Below w.heap.size w (w.alloc (.cells (evC e).toArray 36)) := (Below.refl _ _).alloc (Nat.le_refl _) _
  have hcon := takes_any (h.below hB1) hl e he
  have HT : Hid (∀ k, TakesE b e k → k = 0) := fun k hk => by
    rcases hk with ⟨h1, h2⟩ | ⟨h1, h2, h3⟩ | ⟨h1, h2⟩
    · exact absurd hr h2
    · omega
    · exact h1
  have HE : Hid (EvAt (w.alloc (.cells (evC e).toArray 36)) w.heap.size e) := by unfold Hid evC; constructor <;> simp
  have hw3 := fun (W : World) (B pb : Nat) (sv : Value) (b : Bk) (h : BookAt W B pb sv b) (hl : b.vs.length ≤ 1000000) (id : Int) => write_any h hl id e
  clear hr
  have HP : Hid (postB b e = wrB ⟨b.vs, b.n + 1, b.g + 1⟩ (b.g + 1) e) := rfl
  rw [HP.out]
  clear HP
  obtain ⟨id0, item, kind, qty, price, ofI, day⟩ := e
  unfold evV at hcon hw3 ⊢
  simp only at hcon hw3 ⊢
  go_enter Tryz.func14, Tryz.ntmps14
  go_wp2_with fail
  refine hcon.mono ?_
  rintro r w1 ⟨k, hk, rfl, hb⟩
  obtain rfl := HT.out k hk
  have H1 := (h.below hB1).below hb
  have E1 := HE.out.below hb
  have T1 : Turned w w1 pb sv := .of_below (hB1.trans (hb.mono (by simp)))
  have c1 := H1.c1
  have c2 := H1.c2
  have f1 := H1.f1
  have f2 := H1.f2
  clear hk hcon HE HT hB1 hb
  unfold errV
  rw [if_pos rfl]
  go_wp2_with fail
  refine wp_region_turn [(.pure, 0), (.pure, 1), (.pure, 2), (.pure, 3), (.read, 4), (.read, 5), (.turn, 6)] (by kernel_rfl) (by kernel_rfl) ?_
  obtain ⟨W1, hW⟩ : ∃ W, W = ((w1.setCell ⟨pb, 2, none⟩ (.int .i64 (b.g + 1))).setCell ⟨pb, 1, none⟩ (.int .i64 (b.n + 1))).drew := ⟨_, rfl⟩
  rw [← hW]
  have H2 : BookAt W1 B pb sv ⟨b.vs, b.n + 1, b.g + 1⟩ := by
    rw [hW]; exact ((H1.put2 (b.g + 1)).put1 (b.n + 1)).below (below_drew _)
  have T2 : Turned w W1 pb sv := by
    rw [hW]; exact ((T1.trans (turned_set _ _ _ _ _) (Fresh.refl _ _)).trans (turned_set _ _ _ _ _) (Fresh.refl _ _)).trans (Turned.of_below (below_drew _)) (Fresh.refl _ _)
  have hpl : pb ≠ w.heap.size := by have := h.lt; omega
  have E2 : EvAt W1 w.heap.size ⟨id0, item, kind, qty, price, ofI, day⟩ := by
    rw [hW]; exact ((E1.set ⟨pb, 2, none⟩ _ hpl).set ⟨pb, 1, none⟩ _ hpl).below (below_drew _)
  clear hW c1 c2 f1 f2 H1 E1 T1
  have hU := up_ne
  have hA := anyW_ne
  have q2 := fun n : Up W1 => n.cell H2.c2
  have v0 := fun n : Up W1 => (E2.up n).c0
  have v1 := fun n : Up W1 => (E2.up n).c1
  have v2 := fun n : Up W1 => (E2.up n).c2
  have v3 := fun n : Up W1 => (E2.up n).c3
  have v4 := fun n : Up W1 => (E2.up n).c4
  have v5 := fun n : Up W1 => (E2.up n).c5
  have v6 := fun n : Up W1 => (E2.up n).c6
  simp only at q2 v0 v1 v2 v3 v4 v5 v6
  repeat (first | refine turn_p rfl ?_ | refine turn_q rfl ?_); go_big_quiet_step (fail); refine wpQuiet_nil ?_
  clear q2 v0 v1 v2 v3 v4 v5 v6
  have hw4 := hw3 W1 B pb sv ⟨b.vs, b.n + 1, b.g + 1⟩ H2 hl (b.g + 1)
  clear hw3
  refine turn_t rfl ?_
  go_wp2_with fail
  refine hw4.mono ?_
  rintro r w2 ⟨rfl, sv', H3, T3, F3⟩
  have q2 : w2.cell? ⟨pb, 2, none⟩ = some (.int .i64 (b.g + 1)) := H3.c2
  go_wp2_with fail
  refine ⟨rfl, ?_⟩
  refine turn_nil ?_
  have T4 := T2.trans T3 (Fresh.refl _ _)
  have F4 := F3.grow T2.size
  go_wp2
  refine bodyPost_ret (v := .tuple #[.int .i64 (b.g + 1), .nilIface]) (by simp [results, Tryz.results14, go_sem]) rfl ⟨by rw [errV, if_pos rfl], sv', H3, T4, F4⟩
end Go.Proofs.YtcfgacdcgljbaaaGreat
