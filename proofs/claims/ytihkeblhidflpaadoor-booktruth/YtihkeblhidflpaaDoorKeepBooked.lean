/- The walk of tallymankeep.booked: a fact. -/
import Derived.Test.YtihkeblhidflpaaDoorBookAct
import Derived.Test.YtihkeblhidflpaaDoorBookEqual
import Derived.Test.YtihkeblhidflpaaDoorErrTell
namespace Go.Proofs.YtihkeblhidflpaaDoor
open Go.RowKit
def bk0 : Bk := ⟨[], 0, 0⟩
def ea (q i : Int) : Ev := ⟨i, ⟨#[97]⟩, 1, q, 0, 0, 5⟩
def bk1 : Bk := ⟨[⟨ea 2 1, 1, 0⟩], 1, 1⟩
def bk2 : Bk := ⟨[⟨ea 2 1, 1, 2⟩, ⟨ea 3 1, 2, 0⟩], 2, 1⟩
def bk3 : Bk := ⟨[⟨ea 2 1, 1, 2⟩, ⟨ea 3 1, 2, 3⟩], 3, 1⟩
theorem ea_w (q i : Int) (hq : (Lit.int .i64 q).wf = true) (hi : (Lit.int .i64 i).wf = true) : EvW (ea q i) := ⟨hi, (by show (⟨#[97]⟩ : ByteArray).size ≤ maxLen; decide), (by show (Lit.int .i64 1).wf = true; decide), hq, (by show (Lit.int .i64 0).wf = true; decide), (by show (Lit.int .i64 0).wf = true; decide), (by show (Lit.int .i64 5).wf = true; decide)⟩
theorem ea_rt (q i : Int) (h : 1 ≤ q ∧ q ≤ 100000) : Rt (ea q i) := by
  refine ⟨⟨⟨(by show 1 ≤ 1; decide), (by show 1 ≤ 10; decide)⟩, fun c hc => ?_, fun c hc => ?_⟩, ⟨(by show (0 : Int) ≤ 5; decide), (by show (5 : Int) ≤ 99999; decide)⟩, Or.inl ⟨rfl, h, ⟨(by show (0 : Int) ≤ 0; decide), (by show (0 : Int) ≤ 1000000; decide)⟩, rfl⟩⟩
  · have hc' : c = 97 := by simpa [ea] using hc.symm
    subst hc'; exact ⟨by decide, by decide⟩
  · have hc' : c = 97 := by simpa [ea] using hc
    subst hc'; exact Or.inl ⟨by decide, by decide⟩
theorem bk1_is : postB bk0 (ea 2 0) = bk1 := rfl
theorem bk2_is : corrB bk1 0 1 (ea 3 0) = bk2 := rfl
theorem bk3_is : endB bk2 1 = bk3 := rfl
theorem kx1 : kIx bk1.vs 1 = ((0 : Nat) : Int) := by decide
theorem kx2 : kIx bk2.vs 1 = ((1 : Nat) : Int) := by decide
theorem kx3 : kIx bk3.vs 1 = -1 := by decide
theorem srt_one (x : Ev) : srt [x] = [x] := List.perm_singleton.1 (srt_perm [x])
theorem srt_nil : srt [] = [] := List.length_eq_zero_iff.1 (by rw [srt_len]; rfl)
theorem as21 : srt (asOf bk2 (tOf bk2 1)) = [ea 2 1] := by rw [show asOf bk2 (tOf bk2 1) = [ea 2 1] from rfl, srt_one]
theorem as22 : srt (asOf bk2 (tOf bk2 2)) = [ea 3 1] := by rw [show asOf bk2 (tOf bk2 2) = [ea 3 1] from rfl, srt_one]
theorem as3 : srt (asOf bk3 (tOf bk3 (-1))) = [] := by rw [show asOf bk3 (tOf bk3 (-1)) = [] from rfl, srt_nil]
theorem as32 : srt (asOf bk3 (tOf bk3 2)) = [ea 3 1] := by rw [show asOf bk3 (tOf bk3 2) = [ea 3 1] from rfl, srt_one]
theorem book_new (w : World) (B : Nat) (hB : B ≤ w.heap.size) : BookAt (w.alloc (.cells #[.slice none 0 0, .int .i64 0, .int .i64 0] 27)) B w.heap.size (.slice none 0 0) bk0 :=
  ⟨by simp, by simp [bk0], by simp [bk0], by simp, by simp, by simp, World.ownsRow_nil _ _ _ _, by simp [Value.ownBlock], hB⟩
/-- What one event is told by. -/
theorem own_first {w : World} {B : Nat} {v : Value} {x : Ev} (h : w.ownsRow B 34 7 v [x].length ([x].flatMap evC)) : ∃ g cap, v = .slice (some ⟨g, 0, none⟩) 1 cap ∧ w.cell? ⟨g, 3, none⟩ = some (.int .i64 x.qty) := by
  rcases own_form h with ⟨_, hn, _⟩ | ⟨g, cap, e, _⟩
  · simp at hn
  · subst e
    exact ⟨g, cap, rfl, (own_cell evC_len h 0 3 (by simp) (by decide)).1⟩
theorem Turned.cell {w w' : World} {pb c : Nat} {sv : Value} (t : Turned w w' pb sv) (hl : c < w.heap.size) (hc : c ≠ pb) (hs : sv.ownBlock ≠ some c) (o : Nat) : w'.cell? ⟨c, o, none⟩ = w.cell? ⟨c, o, none⟩ ∧ w'.frozen? ⟨c, o, none⟩ = w.frozen? ⟨c, o, none⟩ := by
  have e := t.block c hl hc hs
  exact ⟨World.cell?_of_block (a := ⟨c, o, none⟩) e, World.frozen?_of_block (a := ⟨c, o, none⟩) e⟩
theorem EvAt.turned {w w' : World} {pb c : Nat} {sv : Value} {e : Ev} (h : EvAt w c e) (t : Turned w w' pb sv) (hc : c ≠ pb) (hs : sv.ownBlock ≠ some c) : EvAt w' c e := by
  have hl : c < w.heap.size := World.block_lt_of_cell? _ _ h.c0
  exact ⟨(t.cell hl hc hs 0).1.trans h.c0, (t.cell hl hc hs 1).1.trans h.c1, (t.cell hl hc hs 2).1.trans h.c2, (t.cell hl hc hs 3).1.trans h.c3, (t.cell hl hc hs 4).1.trans h.c4, (t.cell hl hc hs 5).1.trans h.c5, (t.cell hl hc hs 6).1.trans h.c6⟩
theorem EvAt.qty {w : World} {c : Nat} {e : Ev} (h : EvAt w c e) (q : Int) : EvAt (w.setCell ⟨c, 3, none⟩ (.int .i64 q)) c { e with qty := q } :=
  ⟨(set_other (by simp)).trans h.c0, (set_other (by simp)).trans h.c1, (set_other (by simp)).trans h.c2, set_same h.c3, (set_other (by simp)).trans h.c4, (set_other (by simp)).trans h.c5, (set_other (by simp)).trans h.c6⟩
theorem BookAt.other {w : World} {B pb : Nat} {sv : Value} {b : Bk} (h : BookAt w B pb sv b) (c o : Nat) (v : Value) (hc : c ≠ pb) (hs : sv.ownBlock ≠ Option.some c) : BookAt (w.setCell ⟨c, o, none⟩ v) B pb sv b := by
  have k (j : Nat) : (⟨c, o, none⟩ : Addr) ≠ ⟨pb, j, none⟩ := fun e => hc (by injection e)
  exact ⟨(set_other (k 0)).trans h.c0, (set_other (k 1)).trans h.c1, (set_other (k 2)).trans h.c2, set_frz.trans h.f0, set_frz.trans h.f1, set_frz.trans h.f2, ownsRow_setCell_other h.own hs _, h.ne, h.ge⟩
set_option maxRecDepth 20000 in
set_option maxHeartbeats 8000000 in
theorem booked_any (w : World) (hg : ErrType w) : Calls Tryd.prog 6 #[] w fun e w' => e = .returned (.bool true) ∧ Below w.heap.size w w' := by
  obtain ⟨W0, hW0⟩ : ∃ W, W = (w.alloc (.cells #[.slice none 0 0, .int .i64 0, .int .i64 0] 27)).alloc (.cells #[.int .i64 0, .string ⟨#[97]⟩, .int .i64 1, .int .i64 2, .int .i64 0, .int .i64 0, .int .i64 5] 34) := ⟨_, rfl⟩
  have H0 : BookAt W0 w.heap.size w.heap.size (.slice none 0 0) bk0 := by rw [hW0]; exact (book_new w w.heap.size (Nat.le_refl _)).below ((Below.refl _ _).alloc (Nat.le_refl _) _)
  have E0 : EvAt W0 (w.heap.size + 1) (ea 2 0) := by rw [hW0]; constructor <;> simp [ea]
  have Z0 : W0.frozen? ⟨w.heap.size + 1, 3, none⟩ = false := by rw [hW0]; simp
  have B0 : Below w.heap.size w W0 := by rw [hW0]; exact ((Below.refl _ _).alloc (Nat.le_refl _) _).alloc (by simp) _
  have s0 : w.heap.size + 1 < W0.heap.size := World.block_lt_of_cell? _ _ E0.c0
  have hp := post_yes H0 (by decide) (by decide) (by decide) (by decide) (ea 2 0) (ea_w 2 0 (by decide) (by decide)) (ea_rt 2 0 (by decide)) (by decide)
  rw [bk1_is] at hp
  go_enter Tryd.func6, Tryd.ntmps6
  go_wp2_with fail
  rw [← hW0]
  refine hp.mono ?_
  rintro e w1 ⟨rfl, sv1, H1, T1, F1⟩
  clear hp hW0
  have n1 : sv1.ownBlock ≠ some (w.heap.size + 1) := fun e => by
    rcases F1 _ e with h | h
    · cases h
    · omega
  have E1 := E0.turned T1 (by omega) (by simp [Value.ownBlock])
  have Z1 := (T1.cell s0 (by omega) (by simp [Value.ownBlock]) 3).2.trans Z0
  have B1 := T1.below H0 B0 (by omega)
  have s1 := Nat.lt_of_lt_of_le s0 T1.size
  clear H0 E0 Z0 B0 s0 T1 F1
  have ht := turn_any H1
  unfold errV
  rw [if_pos rfl]
  have hb1 : bk0.g + 1 = 1 := rfl
  have hb2 : bk1.n = 1 := rfl
  rw [hb2] at ht
  rw [hb1]
  clear hb1 hb2
  go_wp2_with fail
  refine ht.mono ?_
  rintro e w1' ⟨rfl, rfl⟩
  clear ht
  have E2 := E1.qty 3
  have q3 := E1.c3
  have H2 := H1.other (w.heap.size + 1) 3 (.int .i64 3) (by omega) n1
  obtain ⟨g1, cap1, hsv1⟩ := H1.some (by decide)
  subst hsv1
  obtain ⟨W2, hW2⟩ : ∃ W, W = w1'.setCell ⟨w.heap.size + 1, 3, none⟩ (.int .i64 3) := ⟨_, rfl⟩
  have B2 : Below w.heap.size w W2 := by rw [hW2]; exact B1.setCell (by simp) _
  rw [← hW2] at H2 E2
  have hc := corr_yes H2 (by decide) (by decide) 1 (ea 3 0) (ea_w 3 0 (by decide) (by decide)) 0 (by decide) kx1 (ea_rt 3 0 (by decide)) (by decide)
  rw [bk2_is] at hc
  have r0 := E1.c0
  have r1 := E1.c1
  have r2 := E1.c2
  have r4 := E1.c4
  have r5 := E1.c5
  have r6 := E1.c6
  simp only [ea] at r0 r1 r2 r4 r5 r6 q3
  clear H1 E1 B1 E2
  unfold evV ea at hc
  simp only at hc
  have HW2 : Hid (W2 = _) := hW2
  clear hW2
  go_wp2_with fail
  rw [← HW2.out]
  refine hc.mono ?_
  rintro e w3 ⟨rfl, sv3, H3, T3, F3⟩
  have B3 := T3.below H2 B2 B2.size
  clear hc HW2 H2 T3 F3 r0 r1 r2 r4 r5 r6 q3 Z1 s1 n1 B2
  have l2 : bk2.vs.length ≤ 1000000 := by decide
  have ha := as_any H3 l2 1
  rw [as21] at ha
  unfold errV
  rw [if_pos rfl]
  go_wp2_with fail
  refine ha.mono ?_
  rintro e w4 ⟨v4, rfl, O4, L4⟩
  obtain ⟨g4, cap4, hv4, q4⟩ := own_first O4
  subst hv4
  have H4 := H3.below L4
  have B4 := B3.trans (L4.mono B3.size)
  have ha4 := as_any H4 l2 1
  rw [as21] at ha4
  clear ha O4 H3 L4 B3
  go_wp2_with fail
  refine ha4.mono ?_
  rintro e w5 ⟨v5, rfl, O5, L5⟩
  obtain ⟨g5, cap5, hv5, q5⟩ := own_first O5
  subst hv5
  have H5 := H4.below L5
  have B5 := B4.trans (L5.mono B4.size)
  have ha5 := as_any H5 l2 2
  rw [as22] at ha5
  have q5' : w5.cell? ⟨g5, 3, none⟩ = some (.int .i64 2) := q5
  clear ha4 O5 H4 L5 B4 q4 q5
  go_wp2_with fail
  refine ha5.mono ?_
  rintro e w6 ⟨v6, rfl, O6, L6⟩
  obtain ⟨g6, cap6, hv6, q6⟩ := own_first O6
  subst hv6
  have H6 := H5.below L6
  have B6 := B5.trans (L6.mono B5.size)
  have q6' : w6.cell? ⟨g6, 3, none⟩ = some (.int .i64 3) := q6
  obtain ⟨gs, caps, hsv⟩ := H6.some (by decide)
  subst hsv
  have hv := void_yes H6 l2 (by decide) (by decide) 1 1 (by decide) kx2
  rw [bk3_is] at hv
  clear ha5 O6 H5 L6 B5 q5' q6
  go_wp2_with fail
  refine hv.mono ?_
  rintro e w7 ⟨rfl, H7, T7⟩
  have B7 := T7.below H6 B6 B6.size
  clear hv H6 B6 T7 q6'
  have l3 : bk3.vs.length ≤ 1000000 := by decide
  have ha7 := as_any H7 l3 (-1)
  rw [as3] at ha7
  unfold errV
  rw [if_pos rfl]
  go_wp2_with fail
  refine ha7.mono ?_
  rintro e w8 ⟨v8, rfl, O8, L8⟩
  obtain ⟨a8, cap8, hv8⟩ := own_len O8
  simp only [List.length_nil] at hv8
  subst hv8
  have H8 := H7.below L8
  have B8 := B7.trans (L8.mono B7.size)
  have ha8 := as_any H8 l3 2
  rw [as32] at ha8
  clear ha7 O8 H7 L8 B7
  go_wp2_with fail
  refine ha8.mono ?_
  rintro e w9 ⟨v9, rfl, O9, L9⟩
  obtain ⟨g9, cap9, hv9, q9⟩ := own_first O9
  subst hv9
  have H9 := H8.below L9
  have B9 := B8.trans (L9.mono B8.size)
  have hv9 := void_no H9 l3 1 kx3
  clear ha8 O9 H8 L9 B8 q9
  go_wp2_with fail
  refine hv9.mono ?_
  rintro e w10 ⟨rfl, L10⟩
  have B10 := B9.trans (L10.mono B9.size)
  have G10 := hg.below (B10.mono (Nat.le_refl _))
  have htell := tell_errno 7 w10 G10
  clear hv9 H9 B9 L10
  unfold errV
  rw [if_neg (by decide)]
  go_wp2_with fail
  refine htell.mono ?_
  rintro e w11 ⟨rfl, L11⟩
  have B11 := B10.trans (L11.mono B10.size)
  clear htell
  go_wp2
  go_ret
  exact ⟨rfl, B11⟩
end Go.Proofs.YtihkeblhidflpaaDoor
