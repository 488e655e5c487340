/- The walk of tallymankeep.reported: a fact. -/
import Derived.Test.YtcfgacdcgljbaaaGreatReDiff
import Derived.Test.YtcfgacdcgljbaaaGreatBookAct
import Derived.Test.YtcfgacdcgljbaaaGreatBnQ
import Derived.WalkSmall
import Derived.Laws.StructEq
namespace Go.Proofs.YtcfgacdcgljbaaaGreat
open Go.RowKit Go.Maps
def er (i : Int) : Ev := ⟨i, ⟨#[97]⟩, 1, 2, 10, 0, 3⟩
def bkR : Bk := ⟨[⟨er 1, 1, 0⟩], 1, 1⟩
theorem er_w (i : Int) (hi : (Lit.int .i64 i).wf = true) : EvW (er i) := ⟨hi, (by show (⟨#[97]⟩ : ByteArray).size ≤ maxLen; decide), (by show (Lit.int .i64 1).wf = true; decide), (by show (Lit.int .i64 2).wf = true; decide), (by show (Lit.int .i64 10).wf = true; decide), (by show (Lit.int .i64 0).wf = true; decide), (by show (Lit.int .i64 3).wf = true; decide)⟩
theorem er_rt (i : Int) : Rt (er i) := by
  refine ⟨⟨⟨(by show 1 ≤ 1; decide), (by show 1 ≤ 10; decide)⟩, fun c hc => ?_, fun c hc => ?_⟩, ⟨(by show (0 : Int) ≤ 3; decide), (by show (3 : Int) ≤ 99999; decide)⟩, Or.inl ⟨rfl, ⟨(by show (1 : Int) ≤ 2; decide), (by show (2 : Int) ≤ 100000; decide)⟩, ⟨(by show (0 : Int) ≤ 10; decide), (by show (10 : Int) ≤ 1000000; decide)⟩, rfl⟩⟩
  · have hc' : c = 97 := by simpa [er] using hc.symm
    subst hc'; exact ⟨by decide, by decide⟩
  · have hc' : c = 97 := by simpa [er] using hc
    subst hc'; exact Or.inl ⟨by decide, by decide⟩
theorem bkR_is : postB bk0 (er 0) = bkR := rfl
theorem asR (t : Int) (ht : t = -1 ∨ t = 1) : srt (asOf bkR (tOf bkR t)) = [er 1] := by
  have e : asOf bkR (tOf bkR t) = [er 1] := by rcases ht with rfl | rfl <;> rfl
  rw [e, srt_one]
theorem asR0 : srt (asOf bkR (tOf bkR 0)) = [] := by
  have e : asOf bkR (tOf bkR 0) = [] := rfl
  rw [e, srt_nil]
theorem upR2 : evUp bkR 2 (-1) = [] := by unfold evUp; rw [asR _ (Or.inl rfl)]; rfl
theorem upR3 : evUp bkR 3 (-1) = [er 1] := by unfold evUp; rw [asR _ (Or.inl rfl)]; rfl
theorem upR31 : evUp bkR 3 1 = [er 1] := by unfold evUp; rw [asR _ (Or.inr rfl)]; rfl
theorem upR30 : evUp bkR 3 0 = [] := by unfold evUp; rw [asR0]; rfl
theorem ordd_nil : ordd [] = [] := List.length_eq_zero_iff.1 (Nat.le_zero.1 (ordd_len []))
theorem ordd_er : ordd [er 1] = [er 1] := by
  have h := ordd_last (l := []) (e := er 1) (by simp) (er_rt 1) (by simp)
  rw [ordd_nil] at h
  exact h
theorem stR (x : ByteArray) : (goS stk00 [er 1] x).ys = if x = ⟨#[97]⟩ then [⟨1, 2, 20⟩] else [] := by
  show (upd stk00 ⟨#[97]⟩ (doE (stk00 ⟨#[97]⟩) (er 1)).1 x).ys = _
  unfold upd
  split
  · rfl
  · rfl
theorem one_key {dom : ByteArray → Prop} {ks : List ByteArray} {a : ByteArray} (h : Keys dom ks) (hd : ∀ x, dom x ↔ x = a) : ks = [a] := by
  have hm : ∀ x, x ∈ ks ↔ x = a := fun x => by rw [h.mem, hd]
  have hn := h.nodup
  match ks, hm, hn with
  | [], hm, _ => exact absurd ((hm a).2 rfl) (by simp)
  | [b], hm, _ => rw [(hm b).1 (by simp)]
  | b :: c :: l, hm, hn =>
    have e1 := (hm b).1 (by simp)
    have e2 := (hm c).1 (by simp)
    rw [e1, e2] at hn
    simp at hn
theorem no_key {dom : ByteArray → Prop} {ks : List ByteArray} (h : Keys dom ks) (hd : ∀ x, ¬ dom x) : ks = [] := by
  cases ks with
  | nil => rfl
  | cons b l => exact absurd ((h.mem b).1 (by simp)) (hd b)
theorem keysR2 {ks : List ByteArray} (h : Keys (fun x => (goS stk00 (ordd (evUp bkR 2 (-1))) x).ys ≠ []) ks) : ks = [] := by
  rw [upR2, ordd_nil] at h
  exact no_key h (fun x c => c rfl)
theorem keysR3 {ks : List ByteArray} (h : Keys (fun x => (goS stk00 (ordd (evUp bkR 3 (-1))) x).ys ≠ []) ks) : ks = [⟨#[97]⟩] := by
  rw [upR3, ordd_er] at h
  refine one_key h fun x => ?_
  rw [stR]
  by_cases e : x = ⟨#[97]⟩ <;> simp [e]
theorem holdR : holdC (goS stk00 (ordd (evUp bkR 3 (-1)))) ⟨#[97]⟩ = [.string ⟨#[97]⟩, .int .i64 2, .int .i64 20] := by
  unfold holdC
  rw [upR3, ordd_er, stR, if_pos rfl]
  rfl
theorem keysRd {cs : List ByteArray} (h : Keys (fun z => dfQ (stUp bkR 3 1) (stUp bkR 3 0) z ≠ 0 ∨ dfV (stUp bkR 3 1) (stUp bkR 3 0) z ≠ 0) cs) : cs.length = 1 := by
  have e : cs = [⟨#[97]⟩] := by
    refine one_key h fun x => ?_
    unfold dfQ dfV stUp
    rw [upR31, upR30, ordd_er, ordd_nil, stR]
    by_cases e : x = ⟨#[97]⟩
    · simp [e, goS, stk00, stk0, sumQ, sumV]
    · simp [e, goS, stk00, stk0, sumQ, sumV]
  rw [e]; rfl
theorem neq_hold (x : ByteArray) (q v : Int) (w : World) : (binOp .neq 44 (.agg #[.string x, .int .i64 q, .int .i64 v]) (.agg #[.string x, .int .i64 q, .int .i64 v])).run Tryz.prog w = .ok (.bool false) w := by
  have hS : Tryz.prog.underlying 44 = some (.struct (Tryz.prog.fieldsOf 44)) := by kernel_rfl
  have hp : Tryz.prog.stoodInHeld 44 = false := by kernel_rfl
  have u3 := Tryz.underlying3
  have a3 := Tryz.isAgg3
  have z3 := Tryz.sizeOf3
  have u4 := Tryz.underlying9
  have a4 := Tryz.isAgg9
  have z4 := Tryz.sizeOf9
  rw [run_neq_struct, show (10000 : Nat) = 9999 + 1 from rfl, run_equalIn_agg w 9999 44 _ _ hS hp]
  simp only [Program.fieldsOf, Tryz.underlying44]
  go_simp
set_option maxRecDepth 20000 in
set_option maxHeartbeats 2000000 in
theorem eq_hold (g1 o1 c1 g2 o2 c2 : Nat) (x : ByteArray) (q v : Int) (w : World) (p0 : w.cell? ⟨g1, o1, none⟩ = some (.string x)) (p1 : w.cell? ⟨g1, o1 + 1, none⟩ = some (.int .i64 q)) (p2 : w.cell? ⟨g1, o1 + 2, none⟩ = some (.int .i64 v)) (r0 : w.cell? ⟨g2, o2, none⟩ = some (.string x)) (r1 : w.cell? ⟨g2, o2 + 1, none⟩ = some (.int .i64 q)) (r2 : w.cell? ⟨g2, o2 + 2, none⟩ = some (.int .i64 v)) :
    Calls Tryz.prog 15 #[.slice (some ⟨g1, o1, none⟩) 1 c1, .slice (some ⟨g2, o2, none⟩) 1 c2] w fun r w' => r = .returned (.bool true) ∧ Below w.heap.size w w' := by
  have hne := neq_hold x q v
  have mixed : Tryz.prog.follows .mixedOrders = true := by kernel_rfl
  go_enter Tryz.func15, Tryz.ntmps15
  go_wp2
  refine wp_loop_rounds 2 ?_
  rw [rounds_succ]
  go_wp2_with fail
  go_quiet (fail)
  go_wp2
  rw [rounds_succ]
  go_wp2
  go_ret
  exact ⟨rfl, below_drewN (Below.refl _ _) _⟩
set_option maxRecDepth 20000 in
set_option maxHeartbeats 8000000 in
theorem reported_any (w : World) : Calls Tryz.prog 5 #[] w fun e w' => e = .returned (.bool true) ∧ Below w.heap.size w w' := by
  obtain ⟨W0, hW0⟩ : ∃ W, W = w.alloc (.cells #[.slice none 0 0, .int .i64 0, .int .i64 0] 51) := ⟨_, rfl⟩
  have H0 : BookAt W0 w.heap.size w.heap.size (.slice none 0 0) bk0 := by rw [hW0]; exact book_new w w.heap.size (Nat.le_refl _)
  have B0 : Below w.heap.size w W0 := by rw [hW0]; exact (Below.refl _ _).alloc (Nat.le_refl _) _
  have hp := post_yes H0 (by decide) (by decide) (by decide) (by decide) (er 0) (er_w 0 (by decide)) (er_rt 0) (by decide)
  rw [bkR_is] at hp
  unfold evV er at hp
  simp only at hp
  have HW0 := hidE hW0
  clear hW0
  go_enter Tryz.func5, Tryz.ntmps5
  go_wp2_with fail
  rw [← HW0.out]
  refine hp.mono ?_
  rintro e w1 ⟨rfl, sv1, H1, T1, F1⟩
  have B1 : Below w.heap.size w w1 := T1.below H0 B0 B0.size
  have hl : bkR.vs.length ≤ 1000 := by decide
  have A2 := reat_any H1 hl 2 (-1) (by rw [upR2]; simp)
  unfold errV
  rw [if_pos rfl]
  have hb1 : bk0.g + 1 = 1 := rfl
  rw [hb1]
  have H1h := hidE H1
  have B1h := hidE B1
  clear hp hb1 H0 T1 F1 H1 B1 B0 HW0
  go_wp2_with fail
  refine A2.mono ?_
  rintro e w2 ⟨v2, ks2, rfl, hk2, ho2, hb2⟩
  obtain rfl := keysR2 hk2
  obtain ⟨ad2, cp2, rfl⟩ := own_lenN ho2
  have A3 := reat_any (H1h.out.below hb2) hl 3 (-1) (by rw [upR3]; intro e he; simp at he; rw [he]; exact er_w 1 (by decide))
  have B2 : Below w.heap.size w w2 := B1h.out.trans (hb2.mono B1h.out.size)
  have H2h := hidE (H1h.out.below hb2)
  have B2h := hidE B2
  clear A2 hk2 ho2 hb2 B2 H1h B1h
  go_wp2_with fail
  refine A3.mono ?_
  rintro e w3 ⟨v3, ks3, rfl, hk3, ho3, hb3⟩
  obtain rfl := keysR3 hk3
  have hcl : ∀ j, j < 3 → ∃ g cap, v3 = .slice (some ⟨g, 0, none⟩) 1 cap ∧ g < w3.heap.size ∧ w3.cell? ⟨g, j, none⟩ = ([.string ⟨#[97]⟩, .int .i64 2, .int .i64 20] : List Value)[j]? := fun j hj => by
    rcases own_form ho3 with ⟨_, e2, _⟩ | ⟨g, cap, e, _, hg, _⟩
    · simp at e2
    · subst e
      refine ⟨g, cap, rfl, hg, ?_⟩
      have := (own_cell (m := 3) (fun _ => rfl) ho3 0 j (by simp) hj).1
      rw [← holdR]
      simpa using this
  obtain ⟨g, cap, rfl, hgl, q0⟩ := hcl 0 (by omega)
  obtain ⟨_, _, e1, _, q1⟩ := hcl 1 (by omega)
  obtain ⟨_, _, e2, _, q2⟩ := hcl 2 (by omega)
  simp only [Value.slice.injEq, Option.some.injEq, Addr.mk.injEq, and_true, true_and] at e1 e2
  obtain ⟨rfl, rfl⟩ := e1
  obtain ⟨rfl, rfl⟩ := e2
  simp only [List.getElem?_cons_zero, List.getElem?_cons_succ] at q0 q1 q2
  have B3 : Below w.heap.size w w3 := B2h.out.trans (hb3.mono B2h.out.size)
  have H3h := hidE (H2h.out.below hb3)
  have B3h := hidE B3
  obtain ⟨W4, hW4⟩ : ∃ W, W = w3.alloc (.cells #[.string ⟨#[97]⟩, .int .i64 2, .int .i64 20] 44) := ⟨_, rfl⟩
  have hb4 : Below w3.heap.size w3 W4 := by rw [hW4]; exact (Below.refl _ _).alloc (Nat.le_refl _) _
  have HEQ := eq_hold g 0 cap w3.heap.size 0 1 ⟨#[97]⟩ 2 20 W4 ((hb4.cell (p := ⟨g, 0, none⟩) hgl).trans q0) ((hb4.cell (p := ⟨g, 0 + 1, none⟩) hgl).trans q1) ((hb4.cell (p := ⟨g, 0 + 2, none⟩) hgl).trans q2) (by rw [hW4]; simp) (by rw [hW4]; simp) (by rw [hW4]; simp)
  have B4 := B3.trans (hb4.mono B3.size)
  have H4 := H3h.out.below hb4
  have HW4 := hidE hW4
  clear A3 hk3 ho3 hb3 B3 H2h B2h hcl hb4 hW4
  go_wp2_with fail
  rw [← HW4.out]
  refine HEQ.mono ?_
  rintro e w5 ⟨rfl, hb5⟩
  have B5 := B4.trans (hb5.mono B4.size)
  have DF := rediff_any (H4.below hb5) hl 3 0 1 (by rw [upR30]; simp) (by rw [upR31]; intro e he; simp at he; rw [he]; exact er_w 1 (by decide))
  clear HEQ H4 hb5 B4 H3h B3h HW4 q0 q1 q2
  go_wp2_with fail
  refine DF.mono ?_
  rintro e w6 ⟨v6, cs, rfl, hcs, ho6, hb6⟩
  have hc1 := keysRd hcs
  obtain ⟨ad6, cp6, rfl⟩ := own_lenN ho6
  rw [hc1]
  clear DF hcs ho6 hc1
  go_wp2
  go_ret
  exact ⟨rfl, B5.trans (hb6.mono B5.size)⟩
end Go.Proofs.YtcfgacdcgljbaaaGreat
