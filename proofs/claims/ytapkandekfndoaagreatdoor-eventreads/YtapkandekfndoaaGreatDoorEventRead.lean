/- The walks of event.date, event.amount, event.number, event.kind, event.read and the function within it. -/
import Derived.Test.YtapkandekfndoaaGreatDoorEventPrint
namespace Go.Proofs.YtapkandekfndoaaGreatDoor
open Go.RowKit
theorem date_any (s : ByteArray) (w : World) (hg : GlobE w) (hs : s.size ≤ 1000) :
    Calls Tryz.prog 80 #[.string s] w fun e w' => e = .returned (.int .i64 (dayOf s.data.toList)) ∧ Below w.heap.size w w' := by
  rcases h : dparsed s.data.toList with _ | n
  · have e : dayOf s.data.toList = -1 := by unfold dayOf; rw [h]; rfl
    rw [e]
    have HD := hidN (dparse_bad s w hg.len (by unfold maxLen; omega) h)
    clear e h hg
    go_enter Tryz.func80, Tryz.ntmps80
    go_wp2_with fail
    refine HD.out.mono ?_
    rintro e w1 ⟨rfl, hb⟩
    go_wp2
    go_ret
    exact ⟨rfl, hb⟩
  · have e : dayOf s.data.toList = n := by unfold dayOf; rw [h]; rfl
    rw [e]
    have HD := hidN (dparse_ok s n w hg.len h)
    clear e h hg
    go_enter Tryz.func80, Tryz.ntmps80
    go_wp2_with fail
    refine HD.out.mono ?_
    rintro e w1 ⟨rfl, hb⟩
    go_wp2
    go_ret
    exact ⟨rfl, hb⟩
theorem amount_of (s : ByteArray) (w : World) (hs : s.size ≤ 1000) :
    Calls Tryz.prog 83 #[.string s] w fun e w' => e = .returned (.int .i64 (amtOf s.data.toList)) ∧ Below w.heap.size w w' := by
  rcases h : parsed s.data.toList with _ | n
  · have e : amtOf s.data.toList = -1 := by unfold amtOf; rw [h]; rfl
    rw [e]
    have HD := hidN (parse_bad s w (by unfold maxLen; omega) h)
    clear e h
    go_enter Tryz.func83, Tryz.ntmps83
    go_wp2_with fail
    refine HD.out.mono ?_
    rintro e w1 ⟨rfl, hb⟩
    go_wp2
    go_ret
    exact ⟨rfl, hb⟩
  · have e : amtOf s.data.toList = n := by unfold amtOf; rw [h]; rfl
    rw [e]
    have HD := hidN (parse_ok s n w h)
    clear e h
    go_enter Tryz.func83, Tryz.ntmps83
    go_wp2_with fail
    refine HD.out.mono ?_
    rintro e w1 ⟨rfl, hb⟩
    go_wp2
    go_ret
    exact ⟨rfl, hb⟩
theorem numOf_ok {l : List UInt8} {v : Int} (h : Lib.atoiAll l = .ok v) : numOf l = v := by unfold numOf; rw [h]
theorem numOf_bad {l : List UInt8} (h : ∀ v, Lib.atoiAll l ≠ .ok v) : numOf l = -1 := by
  unfold numOf
  rcases e : Lib.atoiAll l with v | _ | _
  · exact absurd e (h v)
  · rfl
  · rfl
theorem number_any (s : ByteArray) (w : World) (hg : GlobE w) (hs : s.size ≤ 1000) :
    Calls Tryz.prog 82 #[.string s] w fun e w' => e = .returned (.int .i64 (numOf s.data.toList)) ∧ Below w.heap.size w w' := by
  have HD := hidN (atoiN s w hg.num (by omega))
  clear hg
  go_enter Tryz.func82, Tryz.ntmps82
  go_wp2_with fail
  refine HD.out.mono ?_
  rintro e w1 ⟨hh, hb⟩
  clear HD
  rcases hh with ⟨v, hv, rfl⟩ | ⟨x, tq, q, hno, rfl⟩
  · have HV := hidN (numOf_ok hv)
    clear hv
    go_wp2
    go_ret
    exact ⟨ret_int HV.out.symm, hb⟩
  · have HV := hidN (numOf_bad hno)
    clear hno
    go_wp2
    go_ret
    exact ⟨ret_int HV.out.symm, hb⟩
theorem word_eq (l : List UInt8) (s : ByteArray) : ((eb l).toList == s.toList) = decide (s.data.toList = l) := by
  rw [ByteArray.toList_eq, ByteArray.toList_eq, Bool.eq_iff_iff]
  constructor
  · intro h; exact decide_eq_true (beq_iff_eq.1 h).symm
  · intro h; exact beq_iff_eq.2 (of_decide_eq_true h).symm
set_option maxHeartbeats 1000000 in
theorem kind_any (s : ByteArray) (w : World) (hg : GlobE w) :
    Calls Tryz.prog 81 #[.string s] w fun e w' => e = .returned (.int .i64 (kindOf s.data.toList)) ∧ w' = w := by
  have c1 := hg.wrd 1 (by omega)
  have c2 := hg.wrd 2 (by omega)
  have c3 := hg.wrd 3 (by omega)
  have c4 := hg.wrd 4 (by omega)
  clear hg
  have q1 := word_eq (wordOf 1) s
  have q2 := word_eq (wordOf 2) s
  have q3 := word_eq (wordOf 3) s
  have q4 := word_eq (wordOf 4) s
  obtain ⟨w1, h1⟩ : ∃ x, x = eb (wordOf 1) := ⟨_, rfl⟩
  obtain ⟨w2, h2⟩ : ∃ x, x = eb (wordOf 2) := ⟨_, rfl⟩
  obtain ⟨w3, h3⟩ : ∃ x, x = eb (wordOf 3) := ⟨_, rfl⟩
  obtain ⟨w4, h4⟩ : ∃ x, x = eb (wordOf 4) := ⟨_, rfl⟩
  have d1 : w.cell? ⟨0, 1, none⟩ = some (.string w1) := by rw [h1]; exact c1
  have d2 : w.cell? ⟨0, 2, none⟩ = some (.string w2) := by rw [h2]; exact c2
  have d3 : w.cell? ⟨0, 3, none⟩ = some (.string w3) := by rw [h3]; exact c3
  have d4 : w.cell? ⟨0, 4, none⟩ = some (.string w4) := by rw [h4]; exact c4
  rw [← h1] at q1
  rw [← h2] at q2
  rw [← h3] at q3
  rw [← h4] at q4
  clear c1 c2 c3 c4 h1 h2 h3 h4
  by_cases e1 : s.data.toList = wordOf 1
  · have e : kindOf s.data.toList = 1 := by rw [e1]; rfl
    rw [decide_eq_true e1] at q1
    rw [e]
    clear e q2 q3 q4 e1
    go_enter Tryz.func81, Tryz.ntmps81
    go_wp2
    refine wp_loop_rounds 1 ?_
    rw [rounds_succ]
    go_wp2
    go_ret
    exact ⟨rfl, rfl⟩
  rw [decide_eq_false e1] at q1
  by_cases e2 : s.data.toList = wordOf 2
  · have e : kindOf s.data.toList = 2 := by rw [e2]; rfl
    rw [decide_eq_true e2] at q2
    rw [e]
    clear e q3 q4 e1 e2
    go_enter Tryz.func81, Tryz.ntmps81
    go_wp2
    refine wp_loop_rounds 2 ?_
    rw [rounds_succ]
    go_wp2
    rw [rounds_succ]
    go_wp2
    go_ret
    exact ⟨rfl, rfl⟩
  rw [decide_eq_false e2] at q2
  by_cases e3 : s.data.toList = wordOf 3
  · have e : kindOf s.data.toList = 3 := by rw [e3]; rfl
    rw [decide_eq_true e3] at q3
    rw [e]
    clear e q4 e1 e2 e3
    go_enter Tryz.func81, Tryz.ntmps81
    go_wp2
    refine wp_loop_rounds 3 ?_
    rw [rounds_succ]
    go_wp2
    rw [rounds_succ]
    go_wp2
    rw [rounds_succ]
    go_wp2
    go_ret
    exact ⟨rfl, rfl⟩
  rw [decide_eq_false e3] at q3
  by_cases e4 : s.data.toList = wordOf 4
  · have e : kindOf s.data.toList = 4 := by rw [e4]; rfl
    rw [decide_eq_true e4] at q4
    rw [e]
    clear e e1 e2 e3 e4
    go_enter Tryz.func81, Tryz.ntmps81
    go_wp2
    refine wp_loop_rounds 4 ?_
    rw [rounds_succ]
    go_wp2
    rw [rounds_succ]
    go_wp2
    rw [rounds_succ]
    go_wp2
    rw [rounds_succ]
    go_wp2
    go_ret
    exact ⟨rfl, rfl⟩
  rw [decide_eq_false e4] at q4
  have e : kindOf s.data.toList = 0 := by
    unfold kindOf
    rw [if_neg (show ¬ s.data.toList = [105, 110] from e1), if_neg (show ¬ s.data.toList = [99, 104, 97, 114, 103, 101] from e2), if_neg (show ¬ s.data.toList = [111, 117, 116] from e3), if_neg (show ¬ s.data.toList = [99, 111, 117, 110, 116] from e4)]
  rw [e]
  clear e e1 e2 e3 e4
  go_enter Tryz.func81, Tryz.ntmps81
  go_wp2
  refine wp_loop_rounds 5 ?_
  rw [rounds_succ]
  go_wp2
  rw [rounds_succ]
  go_wp2
  rw [rounds_succ]
  go_wp2
  rw [rounds_succ]
  go_wp2
  rw [rounds_succ]
  go_wp2
  go_ret
  exact ⟨rfl, rfl⟩
/-- The parts of a text lie in a block, and a box holds their slice. -/
structure PartsAt (w : World) (a b : Nat) (l : List ByteArray) : Prop where
  box : w.cell? ⟨a, 0, none⟩ = some (.slice (some ⟨b, 0, none⟩) l.length l.length)
  cells : ∀ k : Nat, k < l.length → w.cell? ⟨b, k, none⟩ = some (.string (l.getD k ⟨#[]⟩))
theorem PartsAt.below {w w' : World} {a b : Nat} {l : List ByteArray} (h : PartsAt w a b l) (hb : Below w.heap.size w w') : PartsAt w' a b l :=
  ⟨below_cell hb h.box, fun k hk => below_cell hb (h.cells k hk)⟩
theorem part_any (k : Nat) (a b : Nat) (l : List ByteArray) (w : World) (h : PartsAt w a b l) :
    Calls Tryz.prog 79 #[.int .i64 k, .pointer (some ⟨a, 0, none⟩)] w fun e w' => e = .returned (.string (l.getD k ⟨#[]⟩)) ∧ w' = w := by
  have c0 := h.box
  by_cases hlt : k < l.length
  · have c1 := h.cells k hlt
    obtain ⟨v, hv⟩ : ∃ v, v = l.getD k ⟨#[]⟩ := ⟨_, rfl⟩
    rw [← hv] at c1 ⊢
    clear h hv
    go_enter Tryz.func79, Tryz.ntmps79
    go_wp2
    go_ret
    exact ⟨rfl, rfl⟩
  · have HD : Hid (l.getD k ⟨#[]⟩ = ⟨#[]⟩) := by
      show l.getD k ⟨#[]⟩ = ⟨#[]⟩
      rw [List.getD, List.getElem?_eq_none (by omega)]; rfl
    rw [HD.out]
    clear h HD
    go_enter Tryz.func79, Tryz.ntmps79
    go_wp2
    go_ret
    exact ⟨rfl, rfl⟩
theorem getD_map (l : List ByteArray) (k : Nat) : (l.map fun b => b.data.toList).getD k [] = (l.getD k ⟨#[]⟩).data.toList := by
  rw [List.getD, List.getD, List.getElem?_map]
  cases l[k]? <;> rfl
/-- What the parts of a text make. -/
def bread (l : List ByteArray) : Ev := pread (l.map fun b => b.data.toList)
theorem part_at (z : Int) (k : Nat) (v : ByteArray) (a b : Nat) (l : List ByteArray) (w : World) (h : PartsAt w a b l) (hz : z = (k : Int)) (hv : l.getD k ⟨#[]⟩ = v) :
    Calls Tryz.prog 79 #[.int .i64 z, .pointer (some ⟨a, 0, none⟩)] w fun e w' => e = .returned (.string v) ∧ w' = w := by
  subst hz hv; exact part_any k a b l w h
/-- An event lies in a block that may be written. -/
structure EvF (w : World) (b : Nat) (e : Ev) : Prop where
  ev : EvAt w b e
  fz : ∀ k : Nat, w.frozen? ⟨b, k, none⟩ = false
theorem EvF.below {w w' : World} {b : Nat} {e : Ev} (h : EvF w b e) (hb : Below w.heap.size w w') : EvF w' b e :=
  ⟨h.ev.below hb, fun k => by rw [hb.frozen (show (⟨b, k, none⟩ : Addr).block < w.heap.size from World.block_lt_of_cell? _ ⟨b, 0, none⟩ h.ev.c0)]; exact h.fz k⟩
set_option maxHeartbeats 8000000 in
theorem read_any (l : List ByteArray) (b : Nat) (w : World) (hg : GlobE w) (hc : ∀ k : Nat, k < l.length → w.cell? ⟨b, k, none⟩ = some (.string (l.getD k ⟨#[]⟩))) (hs : ∀ x ∈ l, x.size ≤ 1000) :
    Calls Tryz.prog 63 #[.slice (some ⟨b, 0, none⟩) l.length l.length] w fun e w' => e = .returned (evV (bread l)) ∧ Below w.heap.size w w' := by
  have hz : ∀ k, (l.getD k ⟨#[]⟩).size ≤ 1000 := by
    intro k
    rw [List.getD]
    rcases h : l[k]? with _ | x
    · show 0 ≤ 1000; omega
    · exact hs x (List.mem_of_getElem? h)
  obtain ⟨W0, hW⟩ : ∃ W, W = ((w.alloc (.cells #[.slice (some ⟨b, 0, none⟩) l.length l.length] 78)).alloc (.cells #[.int .i64 0, .string ⟨#[]⟩, .int .i64 0, .int .i64 0, .int .i64 0, .int .i64 0, .int .i64 0] 52)) := ⟨_, rfl⟩
  have hB0 : Below w.heap.size w W0 := by rw [hW]; exact ((Below.refl _ _).alloc (Nat.le_refl _) _).alloc (by simp) _
  have hP0 : PartsAt W0 w.heap.size b l := ⟨by rw [hW]; simp, fun k hk => below_cell hB0 (hc k hk)⟩
  have hR0 : EvF W0 (w.heap.size + 1) ⟨0, ⟨#[]⟩, 0, 0, 0, 0, 0⟩ := by
    refine ⟨?_, fun k => ?_⟩
    · rw [hW]; constructor <;> simp
    · rw [hW]; simp
  have HG := hidN hg
  obtain ⟨p0, hp0⟩ : ∃ x, l.getD 0 ⟨#[]⟩ = x := ⟨_, rfl⟩
  obtain ⟨p1, hp1⟩ : ∃ x, l.getD 1 ⟨#[]⟩ = x := ⟨_, rfl⟩
  obtain ⟨p2, hp2⟩ : ∃ x, l.getD 2 ⟨#[]⟩ = x := ⟨_, rfl⟩
  obtain ⟨p3, hp3⟩ : ∃ x, l.getD 3 ⟨#[]⟩ = x := ⟨_, rfl⟩
  obtain ⟨p5, hp5⟩ : ∃ x, l.getD 5 ⟨#[]⟩ = x := ⟨_, rfl⟩
  have z0 := hz 0
  have z3 := hz 3
  have z5 := hz 5
  rw [hp0] at z0
  rw [hp3] at z3
  rw [hp5] at z5
  have HR : Hid (bread l = { id := 0, day := dayOf p0.data.toList, kind := kindOf p1.data.toList, item := p2, qty := if kindOf p1.data.toList = 2 then 0 else numOf p3.data.toList, price := if kindOf p1.data.toList = 1 then amtOf p5.data.toList else if kindOf p1.data.toList = 2 then amtOf p3.data.toList else 0, ofI := if kindOf p1.data.toList = 2 then numOf p5.data.toList else 0 }) := by
    show bread l = _
    unfold bread pread
    rw [getD_map, getD_map, getD_map, getD_map, getD_map, hp0, hp1, hp2, hp3, hp5, eb_data]
  have HP0 := hidN hp0
  have HP1 := hidN hp1
  have HP2 := hidN hp2
  have HP3 := hidN hp3
  have HP5 := hidN hp5
  rw [HR.out]
  clear HR hc hs hg hz hp0 hp1 hp2 hp3 hp5
  obtain ⟨d, hd⟩ : ∃ d, dayOf p0.data.toList = d := ⟨_, rfl⟩
  have HD := fun v hv => hidN (date_any p0 v hv z0)
  obtain ⟨k, hk⟩ : ∃ d, kindOf p1.data.toList = d := ⟨_, rfl⟩
  have HK := fun v hv => hidN (kind_any p1 v hv)
  obtain ⟨q3, hq3⟩ : ∃ d, numOf p3.data.toList = d := ⟨_, rfl⟩
  obtain ⟨q5, hq5⟩ : ∃ d, numOf p5.data.toList = d := ⟨_, rfl⟩
  obtain ⟨m3, hm3⟩ : ∃ d, amtOf p3.data.toList = d := ⟨_, rfl⟩
  obtain ⟨m5, hm5⟩ : ∃ d, amtOf p5.data.toList = d := ⟨_, rfl⟩
  have HN3 := fun v hv => hidN (number_any p3 v hv z3)
  have HN5 := fun v hv => hidN (number_any p5 v hv z5)
  have HM3 := fun v => hidN (amount_of p3 v z3)
  have HM5 := fun v => hidN (amount_of p5 v z5)
  rw [hd] at HD ⊢
  rw [hk] at HK ⊢
  rw [hq3] at HN3 ⊢
  rw [hq5] at HN5 ⊢
  rw [hm3] at HM3 ⊢
  rw [hm5] at HM5 ⊢
  clear hd hk hq3 hq5 hm3 hm5 z0 z3 z5
  go_enter Tryz.func63, Tryz.ntmps63
  go_wp2_with fail
  rw [← hW]
  clear hW
  refine (part_at 0 0 p0 _ _ _ _ hP0 rfl HP0.out).mono ?_
  rintro e w' ⟨rfl, hw⟩
  subst w'
  go_wp2_with fail
  refine (HD _ (HG.out.below hB0)).out.mono ?_
  rintro e W1 ⟨rfl, hb1⟩
  have hB1 := hB0.trans (hb1.mono hB0.size)
  have hP1 := hP0.below hb1
  have hR1 := hR0.below hb1
  clear hP0 hR0 hb1 hB0 HD HP0
  go_wp2_with fail
  refine (part_at 1 1 p1 _ _ _ _ hP1 rfl HP1.out).mono ?_
  rintro e w' ⟨rfl, hw⟩
  subst w'
  go_wp2_with fail
  refine (HK _ (HG.out.below hB1)).out.mono ?_
  rintro e w' ⟨rfl, hw⟩
  subst w'
  clear HK HP1
  go_wp2_with fail
  refine (part_at 2 2 p2 _ _ _ _ hP1 rfl HP2.out).mono ?_
  rintro e w' ⟨rfl, hw⟩
  subst w'
  clear HP2
  obtain ⟨W2, hW2⟩ : ∃ W, W = W1.alloc (.cells #[.int .i64 0, .string p2, .int .i64 k, .int .i64 0, .int .i64 0, .int .i64 0, .int .i64 d] 52) := ⟨_, rfl⟩
  have hb2 : Below W1.heap.size W1 W2 := by rw [hW2]; exact (Below.refl _ _).alloc (Nat.le_refl _) _
  have hB2 := hB1.trans (hb2.mono hB1.size)
  have hP2 := hP1.below hb2
  have hR2 := hR1.below hb2
  have hX2 : EvF W2 W1.heap.size ⟨0, p2, k, 0, 0, 0, d⟩ := by
    refine ⟨?_, fun k => ?_⟩
    · rw [hW2]; constructor <;> simp
    · rw [hW2]; simp
  have hlt := World.block_lt_of_cell? _ _ hR1.ev.c0
  simp only at hlt
  have hne : ¬ W1.heap.size = w.heap.size + 1 := by omega
  have hne' : ¬ w.heap.size + 1 = W1.heap.size := by omega
  have hle : w.heap.size ≤ W1.heap.size := hB1.size
  by_cases k1 : k = 1
  · subst k1
    go_wp2_with fail
    rw [← hW2]
    clear hW2 hb2 hP1 hR1 hB1 hlt
    refine (part_at 3 3 p3 _ _ _ _ hP2 rfl HP3.out).mono ?_
    rintro e w' ⟨rfl, hw⟩
    subst w'
    go_wp2_with fail
    refine (HN3 _ (HG.out.below hB2)).out.mono ?_
    rintro e W3 ⟨rfl, hb3⟩
    have hB3 := hB2.trans (hb3.mono hB2.size)
    have hP3 := hP2.below hb3
    have hR3 := hR2.below hb3
    have hX3 := hX2.below hb3
    clear hB2 hP2 hR2 hX2 hb3 HN3 HM3 HN5 HP3
    go_wp2_with fail
    refine (part_at 5 5 p5 _ _ _ _ hP3 rfl HP5.out).mono ?_
    rintro e w' ⟨rfl, hw⟩
    subst w'
    go_wp2_with fail
    refine (HM5 _).out.mono ?_
    rintro e W4 ⟨rfl, hb4⟩
    have hB4 := hB3.trans (hb4.mono hB3.size)
    obtain ⟨r0, r1, r2, r3, r4, r5, r6⟩ := (hR3.below hb4).ev
    have rf := (hR3.below hb4).fz
    obtain ⟨x0, x1, x2, x3, x4, x5, x6⟩ := (hX3.below hb4).ev
    have xf := (hX3.below hb4).fz
    simp only at r0 r1 r2 r3 r4 r5 r6 x0 x1 x2 x3 x4 x5 x6
    clear hB3 hP3 hR3 hX3 hb4 HM5 HP5
    go_wp2
    refine bodyPost_ret (v := evV ⟨0, p2, 1, q3, m5, 0, d⟩) (by simp [results, Tryz.results63, go_sem, evV, *]) rfl ⟨rfl, ?_⟩
    exact ((((((((hB4.setCell hle _).setCell hle _).setCell (Nat.le_succ _) _).setCell (Nat.le_succ _) _).setCell (Nat.le_succ _) _).setCell (Nat.le_succ _) _).setCell (Nat.le_succ _) _).setCell (Nat.le_succ _) _).setCell (Nat.le_succ _) _
  by_cases k2 : k = 2
  · subst k2
    go_wp2_with fail
    rw [← hW2]
    clear hW2 hb2 hP1 hR1 hB1 hlt
    refine (part_at 3 3 p3 _ _ _ _ hP2 rfl HP3.out).mono ?_
    rintro e w' ⟨rfl, hw⟩
    subst w'
    go_wp2_with fail
    refine (HM3 _).out.mono ?_
    rintro e W3 ⟨rfl, hb3⟩
    have hB3 := hB2.trans (hb3.mono hB2.size)
    have hP3 := hP2.below hb3
    have hR3 := hR2.below hb3
    have hX3 := hX2.below hb3
    clear hB2 hP2 hR2 hX2 hb3 HN3 HM3 HM5 HP3
    go_wp2_with fail
    refine (part_at 5 5 p5 _ _ _ _ hP3 rfl HP5.out).mono ?_
    rintro e w' ⟨rfl, hw⟩
    subst w'
    go_wp2_with fail
    refine (HN5 _ (HG.out.below hB3)).out.mono ?_
    rintro e W4 ⟨rfl, hb4⟩
    have hB4 := hB3.trans (hb4.mono hB3.size)
    obtain ⟨r0, r1, r2, r3, r4, r5, r6⟩ := (hR3.below hb4).ev
    have rf := (hR3.below hb4).fz
    obtain ⟨x0, x1, x2, x3, x4, x5, x6⟩ := (hX3.below hb4).ev
    have xf := (hX3.below hb4).fz
    simp only at r0 r1 r2 r3 r4 r5 r6 x0 x1 x2 x3 x4 x5 x6
    clear hB3 hP3 hR3 hX3 hb4 HN5 HP5
    go_wp2
    refine bodyPost_ret (v := evV ⟨0, p2, 2, 0, m3, q5, d⟩) (by simp [results, Tryz.results63, go_sem, evV, *]) rfl ⟨rfl, ?_⟩
    exact ((((((((hB4.setCell hle _).setCell hle _).setCell (Nat.le_succ _) _).setCell (Nat.le_succ _) _).setCell (Nat.le_succ _) _).setCell (Nat.le_succ _) _).setCell (Nat.le_succ _) _).setCell (Nat.le_succ _) _).setCell (Nat.le_succ _) _
  · go_wp2_with fail
    rw [← hW2]
    clear hW2 hb2 hP1 hR1 hB1 hlt
    refine (part_at 3 3 p3 _ _ _ _ hP2 rfl HP3.out).mono ?_
    rintro e w' ⟨rfl, hw⟩
    subst w'
    have hR3 := hR2
    have hX3 := hX2
    clear HN5 HM3 HM5 HP3 HP5 hR2 hX2
    go_wp2_with fail
    refine (HN3 _ (HG.out.below hB2)).out.mono ?_
    rintro e W4 ⟨rfl, hb4⟩
    have hB4 := hB2.trans (hb4.mono hB2.size)
    obtain ⟨r0, r1, r2, r3, r4, r5, r6⟩ := (hR3.below hb4).ev
    have rf := (hR3.below hb4).fz
    obtain ⟨x0, x1, x2, x3, x4, x5, x6⟩ := (hX3.below hb4).ev
    have xf := (hX3.below hb4).fz
    simp only at r0 r1 r2 r3 r4 r5 r6 x0 x1 x2 x3 x4 x5 x6
    clear hB2 hP2 hR3 hX3 hb4 HN3
    go_wp2
    refine bodyPost_ret (v := evV ⟨0, p2, k, q3, 0, 0, d⟩) (by simp [results, Tryz.results63, go_sem, evV, *]) rfl ⟨rfl, ?_⟩
    exact (((((((hB4.setCell hle _).setCell (Nat.le_succ _) _).setCell (Nat.le_succ _) _).setCell (Nat.le_succ _) _).setCell (Nat.le_succ _) _).setCell (Nat.le_succ _) _).setCell (Nat.le_succ _) _).setCell (Nat.le_succ _) _
end Go.Proofs.YtapkandekfndoaaGreatDoor
