/- The walk of (*tallymanref.Periods).Close. The walks of (*tallymanref.Periods).Open and Late; (*period.Periods).Late at a day that there is not. -/
import Derived.Test.YtcfgacdcgljbaaaGreatDoorBoD
namespace Go.Proofs.YtcfgacdcgljbaaaGreatDoor
open Go.RowKit Go.Maps
theorem now_small {b : Bk} (h : Inv b) : (srt (asOf b b.n)).length ≤ 200 ∧ b.vs.length ≤ 1000000 := by
  have h2 := h.full
  refine ⟨?_, by omega⟩
  rw [srt_len]
  unfold asOf
  rw [List.length_map]
  have h1 := List.length_filter_le (isAt b.n) b.vs
  omega
theorem now_rt {b : Bk} (h : Inv b) : ∀ e ∈ srt (asOf b b.n), Rt e := fun e he => by
  have hm : e ∈ asOf b b.n := (srt_perm _).mem_iff.1 he
  unfold asOf at hm
  rw [List.mem_map] at hm
  obtain ⟨v, hv, rfl⟩ := hm
  exact h.rt v (List.mem_filter.1 hv).1
/-- The document's own book, as it is known now. -/
theorem rnow_any {B pb : Nat} {sv : Value} {b : Bk} {w : World} (h : RAt w B pb sv b) (hi : Inv b) (t : Int) (ht : t = b.n ∨ t < 0) :
    Calls Tryz.prog 14 #[.pointer (some ⟨pb, 0, none⟩), .int .i64 t] w fun r w' => ∃ v, r = .returned v ∧ w'.ownsRow w.heap.size 44 7 v (srt (asOf b b.n)).length ((srt (asOf b b.n)).flatMap evC) ∧ Below w.heap.size w w' := by
  refine (ras_any h (now_small hi).2 t).mono ?_
  rintro r w' ⟨v, l, hr, hown, hp, hs, hb⟩
  have e : tR b t = b.n := by
    unfold tR
    have := hi.n0
    rcases ht with rfl | ht
    · rw [if_pos ⟨this, Int.le_refl _⟩]
    · rw [if_neg (by omega)]
  rw [e] at hp
  have hl : l = srt (asOf b b.n) := sorted_one (hp.trans (srt_perm _).symm) hs (srt_sorted _) (((hp.trans (srt_perm _).symm).map _).symm.nodup (now_ok hi).1)
  subst hl
  exact ⟨v, hr, hown, hb⟩
theorem evsC_of {w : World} {B : Nat} {l : List Ev} {ao : Option Addr} {n cap : Nat} (h : w.ownsRow B 44 7 (.slice ao n cap) l.length (l.flatMap evC)) : EvsC w ao l := by
  obtain ⟨ao', cap', e, hc⟩ := (EvsAt.of_own h).toC
  simp only [Value.slice.injEq] at e
  obtain ⟨rfl, _, _⟩ := e
  exact hc
/-- What the document's own close does. -/
def RDoes (b : Bk) (cs : List Cl) (T : Fig) (m c : Int) (F : Fig) (cs' : List Cl) (T' : Fig) : Prop :=
  ((m < 0 ∨ 3299 < m) ∧ c = 1 ∧ F = fig0 ∧ cs' = cs ∧ T' = T) ∨ ((0 ≤ m ∧ m ≤ 3299) ∧ cov cs m = true ∧ c = 10 ∧ F = fig0 ∧ cs' = cs ∧ T' = T)
  ∨ ((0 ≤ m ∧ m ≤ 3299) ∧ cov cs m = false ∧ 60 ≤ cs.length ∧ c = 12 ∧ F = fig0 ∧ cs' = cs ∧ T' = T)
  ∨ ((0 ≤ m ∧ m ≤ 3299) ∧ cov cs m = false ∧ cs.length < 60 ∧ c = 0 ∧ F = (untl (srt (asOf b b.n)) m).minus T ∧ cs' = cs ++ [⟨m, b.n, F⟩] ∧ T' = untl (srt (asOf b b.n)) m)
def RCloseP (w : World) (B pq : Nat) (cv : Value) (b : Bk) (cs : List Cl) (T : Fig) (m : Int) (r : Ending) (w' : World) : Prop :=
  ∃ F c cs' cv' T', r = .returned (.tuple #[figV F, .int .i64 c]) ∧ RDoes b cs T m c F cs' T' ∧ RPerAt w' B pq cv' cs' T' ∧ Turned w w' pq cv ∧ Fresh w cv cv'
theorem rcl_info : (Tryz.prog.info? 70).map (fun i => (i.zero, i.size, i.bytes)) = some (some clZ, 7, 56) := by kernel_rfl
set_option maxRecDepth 100000 in
set_option maxHeartbeats 3000000 in
theorem rclose_any {w : World} {B pq Bb pb : Nat} {cv sv : Value} {cs : List Cl} {T : Fig} {b : Bk} (hp : RPerAt w B pq cv cs T) (hbk : RAt w Bb pb sv b) (hi : Inv b) (ht : TabG w) (hl : cs.length ≤ 1000) (m : Int) :
    Calls Tryz.prog 8 #[.pointer (some ⟨pq, 0, none⟩), .pointer (some ⟨pb, 0, none⟩), .int .i64 m] w (RCloseP w B pq cv b cs T m) := by
  obtain ⟨i0, hi0, hz0, hz1, hz2⟩ := info_parts rcl_info
  obtain ⟨W0, hW0⟩ : ∃ W, W = w.alloc (.cells #[.int .i64 0, .int .i64 0, .int .i64 0, .int .i64 0, .int .i64 0] 38) := ⟨_, rfl⟩
  have hb0 : Below w.heap.size w W0 := by rw [hW0]; exact (Below.refl _ _).alloc (Nat.le_refl _) _
  have hR0 : FigAt W0 w.heap.size fig0 := by rw [hW0]; exact fig_new w
  have HB0 := hidE hb0
  have HW0 := hidE hW0
  have HPQ := hidE hp
  have HBK := hidE hbk
  have HI := hidE hi
  have HTG := hidE ht
  have HRF := hidE hR0
  have HOUT : Hid (∀ (W : World) (c : Int), Below W0.heap.size W0 W → (∃ cs', RDoes b cs T m c fig0 cs' T ∧ cs' = cs) → RCloseP w B pq cv b cs T m (.returned (.tuple #[figV fig0, .int .i64 c])) (set5 W w.heap.size fig0) ∧ FigAt (set5 W w.heap.size fig0) w.heap.size fig0) := fun W c hW ⟨cs', hd, hcs⟩ => by
    subst hcs
    have hBW : Below w.heap.size w W := hb0.trans (hW.mono hb0.size)
    have hBS : Below w.heap.size w (set5 W w.heap.size fig0) := by
      refine ⟨(set5_oth _ _ _).1.trans hBW.os, (set5_oth _ _ _).2.1.trans hBW.tape, (set5_oth _ _ _).2.2.trans hBW.output, ?_, fun j hj => ?_⟩
      · rw [set5_size]; exact hBW.size
      · rw [set5_other _ _ _ (by omega)]; exact hBW.block j hj
    exact ⟨⟨fig0, c, cs', cv, T, rfl, hd, hp.below hBS, Turned.of_below hBS, Fresh.refl _ _⟩, (hR0.below hW).put fig0⟩
  have d0 := hR0.c0
  have d1 := hR0.c1
  have d2 := hR0.c2
  have d3 := hR0.c3
  have d4 := hR0.c4
  have e0 := hR0.z0
  have e1 := hR0.z1
  have e2 := hR0.z2
  have e3 := hR0.z3
  have e4 := hR0.z4
  simp only [fig0] at d0 d1 d2 d3 d4
  clear hp hbk hi ht hb0 hW0 hR0
  by_cases hm : 0 ≤ m ∧ m ≤ 3299
  rotate_left
  · have hin := in_no m 0 3299 W0 (by omega)
    have HX := hidE (HOUT.out W0 1 (Below.refl _ _) ⟨cs, .inl ⟨by omega, rfl, rfl, rfl, rfl⟩, rfl⟩)
    go_enter Tryz.func8, Tryz.ntmps8
    go_wp2_with fail
    rw [← HW0.out]
    refine hin.mono ?_
    rintro r w' ⟨rfl, hw'⟩
    subst w'
    clear hin
    go_wp2
    have g0 := HX.out.2.c0
    have g1 := HX.out.2.c1
    have g2 := HX.out.2.c2
    have g3 := HX.out.2.c3
    have g4 := HX.out.2.c4
    unfold set5 at g0 g1 g2 g3 g4
    simp only [fig0] at g0 g1 g2 g3 g4
    exact bodyPost_ret (v := .tuple #[.agg #[.int .i64 0, .int .i64 0, .int .i64 0, .int .i64 0, .int .i64 0], .int .i64 1]) (by simp [results, Tryz.results8, go_sem, g0, g1, g2, g3, g4]) rfl HX.out.1
  · have hin := in_yes m 0 3299 W0 hm.1 hm.2
    have hla := rlastP_any (HPQ.out.below HB0.out) hl
    have HCV := hidE (cov_last cs m hm.1)
    clear d0 d1 d2 d3 d4 e0 e1 e2 e3 e4
    go_enter Tryz.func8, Tryz.ntmps8
    go_wp2_with fail
    rw [← HW0.out]
    refine hin.mono ?_
    rintro r w' ⟨rfl, hw'⟩
    subst w'
    clear hin
    go_wp2_with fail
    refine hla.mono ?_
    rintro r W1 ⟨rfl, hb1⟩
    clear hla
    have hRx := HRF.out.below hb1
    have HB1 := hidE hb1
    by_cases hcv : m ≤ lastM cs
    · have HX := hidE (HOUT.out W1 10 hb1 ⟨cs, .inr (.inl ⟨hm, by rw [HCV.out]; exact decide_eq_true hcv, rfl, rfl, rfl, rfl⟩), rfl⟩)
      have d0 := hRx.c0
      have d1 := hRx.c1
      have d2 := hRx.c2
      have d3 := hRx.c3
      have d4 := hRx.c4
      have e0 := hRx.z0
      have e1 := hRx.z1
      have e2 := hRx.z2
      have e3 := hRx.z3
      have e4 := hRx.z4
      simp only [fig0] at d0 d1 d2 d3 d4
      clear hRx hb1
      go_wp2
      have g0 := HX.out.2.c0
      have g1 := HX.out.2.c1
      have g2 := HX.out.2.c2
      have g3 := HX.out.2.c3
      have g4 := HX.out.2.c4
      unfold set5 at g0 g1 g2 g3 g4
      simp only [fig0] at g0 g1 g2 g3 g4
      exact bodyPost_ret (v := .tuple #[.agg #[.int .i64 0, .int .i64 0, .int .i64 0, .int .i64 0, .int .i64 0], .int .i64 10]) (by simp [results, Tryz.results8, go_sem, g0, g1, g2, g3, g4]) rfl HX.out.1
    have HNC : Hid (cov cs m = false) := by rw [HCV.out]; exact decide_eq_false hcv
    have hpq1 := (HPQ.out.below HB0.out).below hb1
    have pc0 := hpq1.c0
    obtain ⟨ad, cap, hcvv⟩ := own_lenN hpq1.own
    subst hcvv
    by_cases hfull : 60 ≤ cs.length
    · have hfz : (60 : Int) ≤ (cs.length : Int) := by omega
      have HX := hidE (HOUT.out W1 12 hb1 ⟨cs, .inr (.inr (.inl ⟨hm, HNC.out, hfull, rfl, rfl, rfl, rfl⟩)), rfl⟩)
      have d0 := hRx.c0
      have d1 := hRx.c1
      have d2 := hRx.c2
      have d3 := hRx.c3
      have d4 := hRx.c4
      have e0 := hRx.z0
      have e1 := hRx.z1
      have e2 := hRx.z2
      have e3 := hRx.z3
      have e4 := hRx.z4
      simp only [fig0] at d0 d1 d2 d3 d4
      clear hRx hb1 hpq1
      go_wp2
      have g0 := HX.out.2.c0
      have g1 := HX.out.2.c1
      have g2 := HX.out.2.c2
      have g3 := HX.out.2.c3
      have g4 := HX.out.2.c4
      unfold set5 at g0 g1 g2 g3 g4
      simp only [fig0] at g0 g1 g2 g3 g4
      exact bodyPost_ret (v := .tuple #[.agg #[.int .i64 0, .int .i64 0, .int .i64 0, .int .i64 0, .int .i64 0], .int .i64 12]) (by simp [results, Tryz.results8, go_sem, g0, g1, g2, g3, g4]) rfl HX.out.1
    have hfz : ¬ (60 : Int) ≤ (cs.length : Int) := by omega
    have hB1 : Below w.heap.size w W1 := HB0.out.trans (hb1.mono HB0.out.size)
    have hbk1 := HBK.out.below hB1
    have bn := hbk1.c1
    have hrn := rnow_any hbk1 HI.out b.n (.inl rfl)
    have HB1w := hidE hB1
    have HPQ1 := hidE hpq1
    have HBK1 := hidE hbk1
    clear hRx hb1 hpq1 hbk1 hB1
    go_wp2_with fail
    refine hrn.mono ?_
    rintro r W2 ⟨v2, rfl, hown2, hb2⟩
    clear hrn
    obtain ⟨es, hes⟩ : ∃ l, l = srt (asOf b b.n) := ⟨_, rfl⟩
    have HES := hidE hes
    rw [← hes] at hown2
    obtain ⟨ad2, cp2, hv2⟩ := own_lenN hown2
    subst hv2
    have hB2 : Below w.heap.size w W2 := HB1w.out.trans (hb2.mono HB1w.out.size)
    have hun := runtil_any es ad2 cp2 m W2 (evsC_of hown2) (by rw [hes]; exact (now_ok HI.out).2.1) (by rw [hes]; exact now_rt HI.out) (by rw [hes]; exact (now_small HI.out).1) (HTG.out.below hB2)
    have HPQ2 := hidE (HPQ1.out.below hb2)
    have HBK2 := hidE (HBK1.out.below hb2)
    have HB2 := hidE hB2
    have HR2 := hidE (HRF.out.below (HB1.out.trans (hb2.mono HB1.out.size)))
    have pc2 := HPQ2.out.c0
    have bn2 := HBK2.out.c1
    clear hes hown2 hb2 hB2 pc0 bn
    go_wp2_with fail
    refine hun.mono ?_
    rintro r W3 ⟨rfl, hb3⟩
    clear hun
    obtain ⟨U, hU⟩ : ∃ U, U = untl es m := ⟨_, rfl⟩
    rw [← hU]
    have HU : Hid (U = untl (srt (asOf b b.n)) m) := by rw [← HES.out]; exact hU
    clear hU
    have hpq3 := HPQ2.out.below hb3
    have hbk3 := HBK2.out.below hb3
    have hB3 : Below w.heap.size w W3 := HB2.out.trans (hb3.mono HB2.out.size)
    have hR3 := HR2.out.below hb3
    obtain ⟨F, hF⟩ : ∃ F, F = U.minus T := ⟨_, rfl⟩
    have HF := hidE hF
    obtain ⟨u1, u2, u3, u4, u5⟩ := U
    obtain ⟨W4, hW4⟩ : ∃ W, W = W3.alloc (.cells #[.int .i64 u1, .int .i64 u2, .int .i64 u3, .int .i64 u4, .int .i64 u5] 38) := ⟨_, rfl⟩
    have hb4 : Below W3.heap.size W3 W4 := by rw [hW4]; exact (Below.refl _ _).alloc (Nat.le_refl _) _
    have hRM := fun V : World => radd_minus ⟨u1, u2, u3, u4, u5⟩ T V
    rw [← hF] at hRM
    have hpq4 := hpq3.below hb4
    have t1 := hpq4.c1
    have t2 := hpq4.c2
    have t3 := hpq4.c3
    have t4 := hpq4.c4
    have t5 := hpq4.c5
    have n0 : W4.cell? ⟨W3.heap.size, 0, none⟩ = some (.int .i64 u1) := by rw [hW4]; simp
    have n1 : W4.cell? ⟨W3.heap.size, 1, none⟩ = some (.int .i64 u2) := by rw [hW4]; simp
    have n2 : W4.cell? ⟨W3.heap.size, 2, none⟩ = some (.int .i64 u3) := by rw [hW4]; simp
    have n3 : W4.cell? ⟨W3.heap.size, 3, none⟩ = some (.int .i64 u4) := by rw [hW4]; simp
    have n4 : W4.cell? ⟨W3.heap.size, 4, none⟩ = some (.int .i64 u5) := by rw [hW4]; simp
    rw [hW4] at t1 t2 t3 t4 t5
    obtain ⟨t1', t2', t3', t4', t5'⟩ := T
    obtain ⟨F1, F2, F3, F4, F5⟩ := F
    unfold figV at hRM ⊢
    simp only at hRM t1 t2 t3 t4 t5 ⊢
    have HW4 := hidE hW4
    have HPQ4 := hidE hpq4
    have HBK4 := hidE (hbk3.below hb4)
    have HB4 : Hid (Below w.heap.size w W4) := hB3.trans (hb4.mono hB3.size)
    have HR4 := hidE (hR3.below hb4)
    have HN4 := hidE (And.intro n0 (And.intro n1 (And.intro n2 (And.intro n3 n4))))
    have h3 : w.heap.size < W3.heap.size := hR3.lt
    have h34 : W3.heap.size < W4.heap.size := World.block_lt_of_cell? _ _ n0
    have hpqlt : pq < W3.heap.size := hpq3.lt
    clear hpq3 hbk3 hB3 hR3 hb4 hpq4 n0 n1 n2 n3 n4 hW4 hF hb3 pc2 bn2
    go_wp2_with fail
    rw [← HW4.out]
    rw [← HW4.out] at t1 t2 t3 t4 t5
    refine wp_region_preG (Below W4.heap.size) [(true, 0), (false, 1), (false, 2), (false, 3), (true, 4)] [7] 3 (fun w => Below.refl _ _) (fun a b c h1 h2 => h1.trans h2) (by kernel_rfl) (by kernel_rfl) ?_
    have hU : ∀ w : World, Nonempty (UpK (Below W4.heap.size) w) := fun w => ⟨⟨w, Below.refl _ _⟩⟩
    have hA := anyW_ne
    obtain ⟨Wd, hWd⟩ : ∃ W, W = W4.drew := ⟨_, rfl⟩
    rw [← hWd]
    have hbd : Below W4.heap.size W4 Wd := by rw [hWd]; exact below_drew _
    obtain ⟨n0, n1, n2, n3, n4⟩ := HN4.out
    have y0 := fun q : UpK (Below W4.heap.size) Wd => below_cell (hbd.trans q.h) n0
    have y1 := fun q : UpK (Below W4.heap.size) Wd => below_cell (hbd.trans q.h) n1
    have y2 := fun q : UpK (Below W4.heap.size) Wd => below_cell (hbd.trans q.h) n2
    have y3 := fun q : UpK (Below W4.heap.size) Wd => below_cell (hbd.trans q.h) n3
    have y4 := fun q : UpK (Below W4.heap.size) Wd => below_cell (hbd.trans q.h) n4
    have y5 := fun q : UpK (Below W4.heap.size) Wd => below_cell (hbd.trans q.h) t1
    have y6 := fun q : UpK (Below W4.heap.size) Wd => below_cell (hbd.trans q.h) t2
    have y7 := fun q : UpK (Below W4.heap.size) Wd => below_cell (hbd.trans q.h) t3
    have y8 := fun q : UpK (Below W4.heap.size) Wd => below_cell (hbd.trans q.h) t4
    have y9 := fun q : UpK (Below W4.heap.size) Wd => below_cell (hbd.trans q.h) t5
    have hsd := hbd.size
    clear hWd n0 n1 n2 n3 n4 t1 t2 t3 t4 t5
    repeat (first | refine preG_p rfl ?_ | refine preG_q rfl ?_); go_big_quiet_step (fail); refine wpQuiet_nil ?_
    refine preG_nil ?_
    clear y0 y1 y2 y3 y4 y5 y6 y7 y8 y9
    refine anyG_all [5, 6] (by kernel_rfl) ?_
    intro i hi2
    have hi3 : i = 5 ∨ i = 6 := by simpa using hi2
    clear hi2
    rcases hi3 with rfl | rfl
    · have hrm := hRM Wd
      refine eOpG_keep rfl ?_
      go_wp2_with fail
      refine hrm.mono ?_
      rintro r W5 ⟨rfl, hb5'⟩
      clear hrm
      go_wp2_with fail
      refine ⟨rfl, hb5'.mono hsd, ?_⟩
      have hb5 : Below W4.heap.size W4 W5 := hbd.trans (hb5'.mono hbd.size)
      clear hbd hb5'
      refine anyG_all [6] (by kernel_rfl) ?_
      intro i hi2
      obtain rfl : i = 6 := by simpa using hi2
      clear hi2
      refine eOpG_keep rfl ?_
      go_wp2_with fail
      refine ⟨rfl, (Below.refl _ _).alloc hb5.size _, ?_⟩
      refine anyG_all [7] (by kernel_rfl) ?_
      intro i hi2
      obtain rfl : i = 7 := by simpa using hi2
      clear hi2
      refine eOpG_turn rfl (by decide) ?_
      go_wp2_with fail
      refine ⟨rfl, ?_⟩
      refine anyG_nil (by kernel_rfl) ?_
      obtain ⟨W6, hW6⟩ : ∃ W, W = W5.alloc (.cells #[.int .i64 F1, .int .i64 F2, .int .i64 F3, .int .i64 F4, .int .i64 F5] 38) := ⟨_, rfl⟩
      rw [← hW6]
      have hb6 : Below W4.heap.size W4 W6 := by rw [hW6]; exact hb5.alloc hb5.size _
      have hfb : W4.heap.size ≤ W5.heap.size := hb5.size
      have hFG : FigAt W6 W5.heap.size ⟨F1, F2, F3, F4, F5⟩ := by rw [hW6]; constructor <;> simp
      obtain ⟨fb, hfbe⟩ : ∃ n, n = W5.heap.size := ⟨_, rfl⟩
      rw [← hfbe] at hfb hFG
      rw [← hfbe]
      clear hW6 hb5 hfbe
      have hpq6 := HPQ4.out.below hb6
      have hbk6 := HBK4.out.below hb6
      have hB6 : Below w.heap.size w W6 := HB4.out.trans (hb6.mono HB4.out.size)
      have hR6 := HR4.out.below hb6
      obtain ⟨n0, n1, n2, n3, n4⟩ := HN4.out
      have HN6 : Hid (W6.cell? ⟨W3.heap.size, 0, none⟩ = some (.int .i64 u1) ∧ W6.cell? ⟨W3.heap.size, 1, none⟩ = some (.int .i64 u2) ∧ W6.cell? ⟨W3.heap.size, 2, none⟩ = some (.int .i64 u3) ∧ W6.cell? ⟨W3.heap.size, 3, none⟩ = some (.int .i64 u4) ∧ W6.cell? ⟨W3.heap.size, 4, none⟩ = some (.int .i64 u5)) := ⟨below_cell hb6 n0, below_cell hb6 n1, below_cell hb6 n2, below_cell hb6 n3, below_cell hb6 n4⟩
      have HFG := hidE hFG
      have HR6 := hidE hR6
      have HB6 := hidE hB6
      have pc6 := hpq6.c0
      have bn6 := hbk6.c1
      have x0 := hFG.c0
      have x1 := hFG.c1
      have x2 := hFG.c2
      have x3 := hFG.c3
      have x4 := hFG.c4
      have h46 := hb6.size
      simp only at x0 x1 x2 x3 x4
      have HPQ6 := hidE hpq6
      clear n0 n1 n2 n3 n4 hFG hR6 hB6 hpq6 hbk6 hb6 hU hA hRM
      go_wp2_with fail
      refine wp_region_turn [(.pure, 0), (.pure, 1), (.pure, 2), (.pure, 3), (.read, 4), (.pure, 5), (.pure, 6), (.pure, 7), (.pure, 8), (.read, 9), (.read, 10), (.pure, 11), (.make, 12), (.turn, 13), (.pure, 14), (.pure, 15), (.turn, 16)] (by kernel_rfl) (by kernel_rfl) ?_
      have hU := up_ne
      have hA := anyW_ne
      obtain ⟨Wz, hWz⟩ : ∃ W, W = W6.drew := ⟨_, rfl⟩
      rw [← hWz]
      have hbz : Below W6.heap.size W6 Wz := by rw [hWz]; exact below_drew _
      have y0 := fun n : Up Wz => n.cell (below_cell hbz pc6)
      have y1 := fun n : Up Wz => n.cell (below_cell hbz bn6)
      have y2 := fun n : Up Wz => n.cell (below_cell hbz x0)
      have y3 := fun n : Up Wz => n.cell (below_cell hbz x1)
      have y4 := fun n : Up Wz => n.cell (below_cell hbz x2)
      have y5 := fun n : Up Wz => n.cell (below_cell hbz x3)
      have y6 := fun n : Up Wz => n.cell (below_cell hbz x4)
      have hPz := HPQ6.out.below hbz
      have hszz := hbz.size
      clear hWz pc6 bn6 x0 x1 x2 x3 x4
      repeat (first | refine turn_p rfl ?_ | refine turn_q rfl ?_); go_big_quiet_step (fail); refine wpQuiet_nil ?_
      refine turn_n rfl ?_
      clear y0 y1 y2 y3 y4 y5 y6
      go_wp2_with fail
      refine ⟨rfl, (Below.refl _ _).alloc (Nat.le_refl _) _, ?_⟩
      refine turn_t rfl ?_
      refine wpList_append_new _ rfl _ _ 36 rfl B 70 i0 clZ 7 56 Tryz.underlying36 hi0 hz0 hz1 hz2 rfl (by decide) (.slice ad cs.length cap) _ _ rfl (hPz.own.alloc _) ⟨Wz.heap.size, 0, none⟩ 1 1 (clC ⟨m, b.n, ⟨F1, F2, F3, F4, F5⟩⟩) rfl rfl ?d1 ?d2 ?d3 ?d4 ?d5 (by decide) ?_
      case d1 => exact cells_of_list rfl
      case d2 => exact clC_one _
      case d3 => unfold maxLen; omega
      case d4 => omega
      case d5 => have := hPz.ge; have := hPz.lt; simp; omega
      intro v6 w6 hown6 hgr6 hfr6
      obtain ⟨Wy, hWy⟩ : ∃ W, W = Wz.alloc (.cells (clC ⟨m, b.n, ⟨F1, F2, F3, F4, F5⟩⟩).toArray 70) := ⟨_, rfl⟩
      have hby : Below Wz.heap.size Wz Wy := by rw [hWy]; exact (Below.refl _ _).alloc (Nat.le_refl _) _
      have hgr : Wy.grownBy w6 (Value.slice ad cs.length cap).ownBlock := by rw [hWy]; exact hgr6
      have hfr : Fresh Wy (.slice ad cs.length cap) v6 := by rw [hWy]; exact hfr6
      have hB6 := HB6.out
      have hbzy : Below W6.heap.size W6 Wy := hbz.trans (hby.mono hbz.size)
      have hBy : Below w.heap.size w Wy := hB6.trans (hbzy.mono hB6.size)
      obtain ⟨⟨k0, z0⟩, hP8, hT8, hfw, hblk, hvn, hsz8⟩ := RPerAt.more HPQ.out hBy hown6 hgr hfr
      have hs6y := hbzy.size
      obtain ⟨ad6, cap6, hv6⟩ : ∃ ad6 cap6, v6 = .slice ad6 (cs.length + 1) cap6 := by
        obtain ⟨a, c, e⟩ := own_lenN hP8.own
        rw [List.length_append] at e
        exact ⟨a, c, e⟩
      subst hv6
      obtain ⟨W9, hW9⟩ : ∃ W, W = w6.setCell ⟨pq, 0, none⟩ (.slice ad6 (cs.length + 1) cap6) := ⟨_, rfl⟩
      rw [← hW9] at hP8 hT8 hblk hsz8
      have cell9 : ∀ (k j : Nat) (x : Value), w.heap.size ≤ k → W6.cell? ⟨k, j, none⟩ = some x → W9.cell? ⟨k, j, none⟩ = some x := fun k j x hk hx => by
        have hlt : k < W6.heap.size := World.block_lt_of_cell? _ _ hx
        exact (World.cell?_of_block (a := ⟨k, j, none⟩) (hblk k hk (by omega))).trans (below_cell hbzy hx)
      have hR9 : FigAt W9 w.heap.size fig0 := HR6.out.same ((hblk _ (Nat.le_refl _) (by have := HR6.out.lt; omega)).trans (hbzy.block _ HR6.out.lt))
      have hG9 : FigAt W9 fb ⟨F1, F2, F3, F4, F5⟩ := HFG.out.same ((hblk _ (by omega) (by have := HFG.out.lt; omega)).trans (hbzy.block _ HFG.out.lt))
      obtain ⟨n0, n1, n2, n3, n4⟩ := HN6.out
      have HN9 := hidE (And.intro (cell9 _ _ _ (by omega) n0) (And.intro (cell9 _ _ _ (by omega) n1) (And.intro (cell9 _ _ _ (by omega) n2) (And.intro (cell9 _ _ _ (by omega) n3) (cell9 _ _ _ (by omega) n4)))))
      have hne1 : pq ≠ w.heap.size := by have := HPQ.out.lt; omega
      have hP10 := hP8.told ⟨u1, u2, u3, u4, u5⟩
      have hR10 : FigAt (setT W9 pq ⟨u1, u2, u3, u4, u5⟩) w.heap.size fig0 := hR9.same (setT_other _ _ _ (fun e => hne1 e.symm))
      have hG10 : FigAt (setT W9 pq ⟨u1, u2, u3, u4, u5⟩) fb ⟨F1, F2, F3, F4, F5⟩ := hG9.same (setT_other _ _ _ (by have := HPQ.out.lt; omega))
      have hvw : (Value.slice ad6 (cs.length + 1) cap6).ownBlock ≠ some w.heap.size := hvn _ (Nat.le_refl _) (by have := HR6.out.lt; omega)
      have HFIN : Hid (RCloseP w B pq (.slice ad cs.length cap) b cs ⟨t1', t2', t3', t4', t5'⟩ m (.returned (.tuple #[figV ⟨F1, F2, F3, F4, F5⟩, .int .i64 0])) (set5 (setT W9 pq ⟨u1, u2, u3, u4, u5⟩) w.heap.size ⟨F1, F2, F3, F4, F5⟩)) := by
        refine ⟨⟨F1, F2, F3, F4, F5⟩, 0, cs ++ [⟨m, b.n, ⟨F1, F2, F3, F4, F5⟩⟩], _, ⟨u1, u2, u3, u4, u5⟩, rfl, .inr (.inr (.inr ⟨hm, HNC.out, by omega, rfl, ?_, rfl, HU.out⟩)), hP10.set5 hne1 hvw _, turned_set5n (turned_setT hT8 _) (Nat.le_refl _) _, hfw⟩
        rw [HF.out, HU.out]
      have HG11 := hidE (hR10.put ⟨F1, F2, F3, F4, F5⟩)
      have HW9 := hidE hW9
      have HP8 := hidE hP8
      have HR10 := hidE hR10
      have HG10 := hidE hG10
      clear hgr6 hfr6 hgr hfr hWy hown6 hP8 hT8 hfw hblk hvn hby hbz hbzy hBy cell9 n0 n1 n2 n3 n4 hR9 hG9 hP10 hR10 hG10 hB6 hPz hW9
      go_wp2_with fail
      refine ⟨rfl, ?_⟩
      repeat (first | refine turn_p rfl ?_ | refine turn_q rfl ?_); go_big_quiet_step (fail); refine wpQuiet_nil ?_
      refine turn_t rfl ?_
      go_wp2_with fail
      refine ⟨rfl, ?_⟩
      refine turn_nil ?_
      rw [← HW9.out]
      clear k0 z0
      obtain ⟨n0, n1, n2, n3, n4⟩ := HN9.out
      have p1 := HP8.out.c1
      have p2 := HP8.out.c2
      have p3 := HP8.out.c3
      have p4 := HP8.out.c4
      have p5 := HP8.out.c5
      have q1 := HP8.out.fz 1
      have q2 := HP8.out.fz 2
      have q3 := HP8.out.fz 3
      have q4 := HP8.out.fz 4
      have q5 := HP8.out.fz 5
      simp only at p1 p2 p3 p4 p5
      have f0 := HG10.out.c0
      have f1 := HG10.out.c1
      have f2 := HG10.out.c2
      have f3 := HG10.out.c3
      have f4 := HG10.out.c4
      have d0 := HR10.out.c0
      have d1 := HR10.out.c1
      have d2 := HR10.out.c2
      have d3 := HR10.out.c3
      have d4 := HR10.out.c4
      have e0 := HR10.out.z0
      have e1 := HR10.out.z1
      have e2 := HR10.out.z2
      have e3 := HR10.out.z3
      have e4 := HR10.out.z4
      unfold setT at f0 f1 f2 f3 f4 d0 d1 d2 d3 d4 e0 e1 e2 e3 e4
      simp only [fig0] at f0 f1 f2 f3 f4 d0 d1 d2 d3 d4 e0 e1 e2 e3 e4
      go_wp2
      have g0 := HG11.out.c0
      have g1 := HG11.out.c1
      have g2 := HG11.out.c2
      have g3 := HG11.out.c3
      have g4 := HG11.out.c4
      unfold set5 setT at g0 g1 g2 g3 g4
      simp only at g0 g1 g2 g3 g4
      exact bodyPost_ret (v := .tuple #[.agg #[.int .i64 F1, .int .i64 F2, .int .i64 F3, .int .i64 F4, .int .i64 F5], .int .i64 0]) (by simp [results, Tryz.results8, go_sem, g0, g1, g2, g3, g4]) rfl HFIN.out
    · refine eOpG_keep rfl ?_
      go_wp2_with fail
      obtain ⟨Wf, hWf⟩ : ∃ W, W = Wd.alloc (.cells #[.int .i64 0, .int .i64 0, .int .i64 0, .int .i64 0, .int .i64 0] 38) := ⟨_, rfl⟩
      have hbf : Below Wd.heap.size Wd Wf := by rw [hWf]; exact (Below.refl _ _).alloc (Nat.le_refl _) _
      have hFf : FigAt Wf Wd.heap.size fig0 := by rw [hWf]; exact fig_new Wd
      refine ⟨rfl, by rw [← hWf]; exact hbf.mono hsd, ?_⟩
      rw [← hWf]
      clear hWf
      have hrm := hRM Wf
      refine anyG_all [5] (by kernel_rfl) ?_
      intro i hi2
      obtain rfl : i = 5 := by simpa using hi2
      clear hi2
      refine eOpG_keep rfl ?_
      go_wp2_with fail
      refine hrm.mono ?_
      rintro r W5 ⟨rfl, hb5'⟩
      clear hrm
      go_wp2_with fail
      have hbdf : Below W4.heap.size W4 Wf := hbd.trans (hbf.mono hsd)
      refine ⟨rfl, hb5'.mono hbdf.size, ?_⟩
      have hb5 : Below W4.heap.size W4 W5 := hbdf.trans (hb5'.mono hbdf.size)
      have hF5 := hFf.below hb5'
      have d0 := hF5.c0
      have d1 := hF5.c1
      have d2 := hF5.c2
      have d3 := hF5.c3
      have d4 := hF5.c4
      have e0 := hF5.z0
      have e1 := hF5.z1
      have e2 := hF5.z2
      have e3 := hF5.z3
      have e4 := hF5.z4
      simp only [fig0] at d0 d1 d2 d3 d4
      have HF5 := hidE hF5
      clear hbd hb5' hF5 hFf hbf hbdf
      refine anyG_all [7] (by kernel_rfl) ?_
      intro i hi2
      obtain rfl : i = 7 := by simpa using hi2
      clear hi2
      refine eOpG_turn rfl (by decide) ?_
      go_wp2_with fail
      refine ⟨rfl, ?_⟩
      refine anyG_nil (by kernel_rfl) ?_
      clear d0 d1 d2 d3 d4 e0 e1 e2 e3 e4
      obtain ⟨W6, hW6⟩ : ∃ W, W = set5 W5 Wd.heap.size ⟨F1, F2, F3, F4, F5⟩ := ⟨_, rfl⟩
      have hW6' := hW6
      unfold set5 at hW6'
      simp only at hW6'
      rw [← hW6']
      have hb6 : Below W4.heap.size W4 W6 := by
        rw [hW6]
        refine ⟨(set5_oth _ _ _).1.trans hb5.os, (set5_oth _ _ _).2.1.trans hb5.tape, (set5_oth _ _ _).2.2.trans hb5.output, by rw [set5_size]; exact hb5.size, fun j hj => ?_⟩
        rw [set5_other _ _ _ (by omega)]; exact hb5.block j hj
      have hFG : FigAt W6 Wd.heap.size ⟨F1, F2, F3, F4, F5⟩ := by rw [hW6]; exact HF5.out.put _
      have hfb : W4.heap.size ≤ Wd.heap.size := hsd
      obtain ⟨fb, hfbe⟩ : ∃ n, n = Wd.heap.size := ⟨_, rfl⟩
      rw [← hfbe] at hfb hFG
      rw [← hfbe]
      clear hW6 hW6' hb5 hfbe HF5 hsd
      have hpq6 := HPQ4.out.below hb6
      have hbk6 := HBK4.out.below hb6
      have hB6 : Below w.heap.size w W6 := HB4.out.trans (hb6.mono HB4.out.size)
      have hR6 := HR4.out.below hb6
      obtain ⟨n0, n1, n2, n3, n4⟩ := HN4.out
      have HN6 : Hid (W6.cell? ⟨W3.heap.size, 0, none⟩ = some (.int .i64 u1) ∧ W6.cell? ⟨W3.heap.size, 1, none⟩ = some (.int .i64 u2) ∧ W6.cell? ⟨W3.heap.size, 2, none⟩ = some (.int .i64 u3) ∧ W6.cell? ⟨W3.heap.size, 3, none⟩ = some (.int .i64 u4) ∧ W6.cell? ⟨W3.heap.size, 4, none⟩ = some (.int .i64 u5)) := ⟨below_cell hb6 n0, below_cell hb6 n1, below_cell hb6 n2, below_cell hb6 n3, below_cell hb6 n4⟩
      have HFG := hidE hFG
      have HR6 := hidE hR6
      have HB6 := hidE hB6
      have pc6 := hpq6.c0
      have bn6 := hbk6.c1
      have x0 := hFG.c0
      have x1 := hFG.c1
      have x2 := hFG.c2
      have x3 := hFG.c3
      have x4 := hFG.c4
      have h46 := hb6.size
      simp only at x0 x1 x2 x3 x4
      have HPQ6 := hidE hpq6
      clear n0 n1 n2 n3 n4 hFG hR6 hB6 hpq6 hbk6 hb6 hU hA hRM
      go_wp2_with fail
      refine wp_region_turn [(.pure, 0), (.pure, 1), (.pure, 2), (.pure, 3), (.read, 4), (.pure, 5), (.pure, 6), (.pure, 7), (.pure, 8), (.read, 9), (.read, 10), (.pure, 11), (.make, 12), (.turn, 13), (.pure, 14), (.pure, 15), (.turn, 16)] (by kernel_rfl) (by kernel_rfl) ?_
      have hU := up_ne
      have hA := anyW_ne
      obtain ⟨Wz, hWz⟩ : ∃ W, W = W6.drew := ⟨_, rfl⟩
      rw [← hWz]
      have hbz : Below W6.heap.size W6 Wz := by rw [hWz]; exact below_drew _
      have y0 := fun n : Up Wz => n.cell (below_cell hbz pc6)
      have y1 := fun n : Up Wz => n.cell (below_cell hbz bn6)
      have y2 := fun n : Up Wz => n.cell (below_cell hbz x0)
      have y3 := fun n : Up Wz => n.cell (below_cell hbz x1)
      have y4 := fun n : Up Wz => n.cell (below_cell hbz x2)
      have y5 := fun n : Up Wz => n.cell (below_cell hbz x3)
      have y6 := fun n : Up Wz => n.cell (below_cell hbz x4)
      have hPz := HPQ6.out.below hbz
      have hszz := hbz.size
      clear hWz pc6 bn6 x0 x1 x2 x3 x4
      repeat (first | refine turn_p rfl ?_ | refine turn_q rfl ?_); go_big_quiet_step (fail); refine wpQuiet_nil ?_
      refine turn_n rfl ?_
      clear y0 y1 y2 y3 y4 y5 y6
      go_wp2_with fail
      refine ⟨rfl, (Below.refl _ _).alloc (Nat.le_refl _) _, ?_⟩
      refine turn_t rfl ?_
      refine wpList_append_new _ rfl _ _ 36 rfl B 70 i0 clZ 7 56 Tryz.underlying36 hi0 hz0 hz1 hz2 rfl (by decide) (.slice ad cs.length cap) _ _ rfl (hPz.own.alloc _) ⟨Wz.heap.size, 0, none⟩ 1 1 (clC ⟨m, b.n, ⟨F1, F2, F3, F4, F5⟩⟩) rfl rfl ?d1 ?d2 ?d3 ?d4 ?d5 (by decide) ?_
      case d1 => exact cells_of_list rfl
      case d2 => exact clC_one _
      case d3 => unfold maxLen; omega
      case d4 => omega
      case d5 => have := hPz.ge; have := hPz.lt; simp; omega
      intro v6 w6 hown6 hgr6 hfr6
      obtain ⟨Wy, hWy⟩ : ∃ W, W = Wz.alloc (.cells (clC ⟨m, b.n, ⟨F1, F2, F3, F4, F5⟩⟩).toArray 70) := ⟨_, rfl⟩
      have hby : Below Wz.heap.size Wz Wy := by rw [hWy]; exact (Below.refl _ _).alloc (Nat.le_refl _) _
      have hgr : Wy.grownBy w6 (Value.slice ad cs.length cap).ownBlock := by rw [hWy]; exact hgr6
      have hfr : Fresh Wy (.slice ad cs.length cap) v6 := by rw [hWy]; exact hfr6
      have hB6 := HB6.out
      have hbzy : Below W6.heap.size W6 Wy := hbz.trans (hby.mono hbz.size)
      have hBy : Below w.heap.size w Wy := hB6.trans (hbzy.mono hB6.size)
      obtain ⟨⟨k0, z0⟩, hP8, hT8, hfw, hblk, hvn, hsz8⟩ := RPerAt.more HPQ.out hBy hown6 hgr hfr
      have hs6y := hbzy.size
      obtain ⟨ad6, cap6, hv6⟩ : ∃ ad6 cap6, v6 = .slice ad6 (cs.length + 1) cap6 := by
        obtain ⟨a, c, e⟩ := own_lenN hP8.own
        rw [List.length_append] at e
        exact ⟨a, c, e⟩
      subst hv6
      obtain ⟨W9, hW9⟩ : ∃ W, W = w6.setCell ⟨pq, 0, none⟩ (.slice ad6 (cs.length + 1) cap6) := ⟨_, rfl⟩
      rw [← hW9] at hP8 hT8 hblk hsz8
      have cell9 : ∀ (k j : Nat) (x : Value), w.heap.size ≤ k → W6.cell? ⟨k, j, none⟩ = some x → W9.cell? ⟨k, j, none⟩ = some x := fun k j x hk hx => by
        have hlt : k < W6.heap.size := World.block_lt_of_cell? _ _ hx
        exact (World.cell?_of_block (a := ⟨k, j, none⟩) (hblk k hk (by omega))).trans (below_cell hbzy hx)
      have hR9 : FigAt W9 w.heap.size fig0 := HR6.out.same ((hblk _ (Nat.le_refl _) (by have := HR6.out.lt; omega)).trans (hbzy.block _ HR6.out.lt))
      have hG9 : FigAt W9 fb ⟨F1, F2, F3, F4, F5⟩ := HFG.out.same ((hblk _ (by omega) (by have := HFG.out.lt; omega)).trans (hbzy.block _ HFG.out.lt))
      obtain ⟨n0, n1, n2, n3, n4⟩ := HN6.out
      have HN9 := hidE (And.intro (cell9 _ _ _ (by omega) n0) (And.intro (cell9 _ _ _ (by omega) n1) (And.intro (cell9 _ _ _ (by omega) n2) (And.intro (cell9 _ _ _ (by omega) n3) (cell9 _ _ _ (by omega) n4)))))
      have hne1 : pq ≠ w.heap.size := by have := HPQ.out.lt; omega
      have hP10 := hP8.told ⟨u1, u2, u3, u4, u5⟩
      have hR10 : FigAt (setT W9 pq ⟨u1, u2, u3, u4, u5⟩) w.heap.size fig0 := hR9.same (setT_other _ _ _ (fun e => hne1 e.symm))
      have hG10 : FigAt (setT W9 pq ⟨u1, u2, u3, u4, u5⟩) fb ⟨F1, F2, F3, F4, F5⟩ := hG9.same (setT_other _ _ _ (by have := HPQ.out.lt; omega))
      have hvw : (Value.slice ad6 (cs.length + 1) cap6).ownBlock ≠ some w.heap.size := hvn _ (Nat.le_refl _) (by have := HR6.out.lt; omega)
      have HFIN : Hid (RCloseP w B pq (.slice ad cs.length cap) b cs ⟨t1', t2', t3', t4', t5'⟩ m (.returned (.tuple #[figV ⟨F1, F2, F3, F4, F5⟩, .int .i64 0])) (set5 (setT W9 pq ⟨u1, u2, u3, u4, u5⟩) w.heap.size ⟨F1, F2, F3, F4, F5⟩)) := by
        refine ⟨⟨F1, F2, F3, F4, F5⟩, 0, cs ++ [⟨m, b.n, ⟨F1, F2, F3, F4, F5⟩⟩], _, ⟨u1, u2, u3, u4, u5⟩, rfl, .inr (.inr (.inr ⟨hm, HNC.out, by omega, rfl, ?_, rfl, HU.out⟩)), hP10.set5 hne1 hvw _, turned_set5n (turned_setT hT8 _) (Nat.le_refl _) _, hfw⟩
        rw [HF.out, HU.out]
      have HG11 := hidE (hR10.put ⟨F1, F2, F3, F4, F5⟩)
      have HW9 := hidE hW9
      have HP8 := hidE hP8
      have HR10 := hidE hR10
      have HG10 := hidE hG10
      clear hgr6 hfr6 hgr hfr hWy hown6 hP8 hT8 hfw hblk hvn hby hbz hbzy hBy cell9 n0 n1 n2 n3 n4 hR9 hG9 hP10 hR10 hG10 hB6 hPz hW9
      go_wp2_with fail
      refine ⟨rfl, ?_⟩
      repeat (first | refine turn_p rfl ?_ | refine turn_q rfl ?_); go_big_quiet_step (fail); refine wpQuiet_nil ?_
      refine turn_t rfl ?_
      go_wp2_with fail
      refine ⟨rfl, ?_⟩
      refine turn_nil ?_
      rw [← HW9.out]
      clear k0 z0
      obtain ⟨n0, n1, n2, n3, n4⟩ := HN9.out
      have p1 := HP8.out.c1
      have p2 := HP8.out.c2
      have p3 := HP8.out.c3
      have p4 := HP8.out.c4
      have p5 := HP8.out.c5
      have q1 := HP8.out.fz 1
      have q2 := HP8.out.fz 2
      have q3 := HP8.out.fz 3
      have q4 := HP8.out.fz 4
      have q5 := HP8.out.fz 5
      simp only at p1 p2 p3 p4 p5
      have f0 := HG10.out.c0
      have f1 := HG10.out.c1
      have f2 := HG10.out.c2
      have f3 := HG10.out.c3
      have f4 := HG10.out.c4
      have d0 := HR10.out.c0
      have d1 := HR10.out.c1
      have d2 := HR10.out.c2
      have d3 := HR10.out.c3
      have d4 := HR10.out.c4
      have e0 := HR10.out.z0
      have e1 := HR10.out.z1
      have e2 := HR10.out.z2
      have e3 := HR10.out.z3
      have e4 := HR10.out.z4
      unfold setT at f0 f1 f2 f3 f4 d0 d1 d2 d3 d4 e0 e1 e2 e3 e4
      simp only [fig0] at f0 f1 f2 f3 f4 d0 d1 d2 d3 d4 e0 e1 e2 e3 e4
      go_wp2
      have g0 := HG11.out.c0
      have g1 := HG11.out.c1
      have g2 := HG11.out.c2
      have g3 := HG11.out.c3
      have g4 := HG11.out.c4
      unfold set5 setT at g0 g1 g2 g3 g4
      simp only at g0 g1 g2 g3 g4
      exact bodyPost_ret (v := .tuple #[.agg #[.int .i64 F1, .int .i64 F2, .int .i64 F3, .int .i64 F4, .int .i64 F5], .int .i64 0]) (by simp [results, Tryz.results8, go_sem, g0, g1, g2, g3, g4]) rfl HFIN.out
end Go.Proofs.YtcfgacdcgljbaaaGreatDoor
namespace Go.Proofs.YtcfgacdcgljbaaaGreatDoor
open Go.RowKit Go.Maps
set_option maxRecDepth 100000 in
set_option maxHeartbeats 3000000 in
theorem ropen_any {w : World} {B pq Bb pb : Nat} {cv sv : Value} {cs : List Cl} {T : Fig} {b : Bk} (hp : RPerAt w B pq cv cs T) (hbk : RAt w Bb pb sv b) (hi : Inv b) (ht : TabG w) :
    Calls Tryz.prog 12 #[.pointer (some ⟨pq, 0, none⟩), .pointer (some ⟨pb, 0, none⟩)] w fun r w' => r = .returned (figV ((untl (srt (asOf b b.n)) 3300).minus T)) ∧ Below w.heap.size w w' := by
  obtain ⟨W0, hW0⟩ : ∃ W, W = w.alloc (.cells #[.int .i64 0, .int .i64 0, .int .i64 0, .int .i64 0, .int .i64 0] 38) := ⟨_, rfl⟩
  have hb0 : Below w.heap.size w W0 := by rw [hW0]; exact (Below.refl _ _).alloc (Nat.le_refl _) _
  have HRF : Hid (FigAt W0 w.heap.size fig0) := by rw [hW0]; exact fig_new w
  have HW0 := hidE hW0
  have HB0 := hidE hb0
  have HPQ := hidE (hp.below hb0)
  have HBK := hidE (hbk.below hb0)
  have HI := hidE hi
  have HTG := hidE (ht.below hb0)
  have bn := HBK.out.c1
  clear hp hbk hi ht hW0
  go_enter Tryz.func12, Tryz.ntmps12
  go_wp2_with fail
  rw [← HW0.out]
  refine wp_region_turn [(.pure, 0), (.pure, 1), (.pure, 2), (.pure, 3), (.read, 4), (.pure, 7), (.pure, 8), (.pure, 9), (.read, 10), (.make, 5), (.make, 6), (.make, 11), (.turn, 12)] (by kernel_rfl) (by kernel_rfl) ?_
  have hU := up_ne
  have hA := anyW_ne
  obtain ⟨Wd, hWd⟩ : ∃ W, W = W0.drew := ⟨_, rfl⟩
  rw [← hWd]
  have hbd : Below W0.heap.size W0 Wd := by rw [hWd]; exact below_drew _
  obtain ⟨t1', t2', t3', t4', t5'⟩ := T
  have t1 := HPQ.out.c1
  have t2 := HPQ.out.c2
  have t3 := HPQ.out.c3
  have t4 := HPQ.out.c4
  have t5 := HPQ.out.c5
  simp only at t1 t2 t3 t4 t5
  have y0 := fun n : Up Wd => n.cell (below_cell hbd bn)
  have y1 := fun n : Up Wd => n.cell (below_cell hbd t1)
  have y2 := fun n : Up Wd => n.cell (below_cell hbd t2)
  have y3 := fun n : Up Wd => n.cell (below_cell hbd t3)
  have y4 := fun n : Up Wd => n.cell (below_cell hbd t4)
  have y5 := fun n : Up Wd => n.cell (below_cell hbd t5)
  have hrn := rnow_any (HBK.out.below hbd) HI.out b.n (.inl rfl)
  obtain ⟨es, hes⟩ : ∃ l, l = srt (asOf b b.n) := ⟨_, rfl⟩
  rw [← hes] at hrn
  have HEW : Hid ((∀ e ∈ es, EvW e) ∧ (∀ e ∈ es, Rt e) ∧ es.length ≤ 200) := by rw [hes]; exact ⟨(now_ok HI.out).2.1, now_rt HI.out, (now_small HI.out).1⟩
  obtain ⟨R, hR⟩ : ∃ R, R = (untl (srt (asOf b b.n)) 3300).minus ⟨t1', t2', t3', t4', t5'⟩ := ⟨_, rfl⟩
  have HRR := hidE hR
  have HES := hidE hes
  clear hWd t1 t2 t3 t4 t5 bn hes hR
  repeat (first | refine turn_p rfl ?_ | refine turn_q rfl ?_); go_big_quiet_step (fail); refine wpQuiet_nil ?_
  refine turn_n rfl ?_
  clear y0 y1 y2 y3 y4 y5
  go_wp2_with fail
  refine hrn.mono ?_
  rintro r W1 ⟨v1, rfl, hown1, hb1⟩
  clear hrn
  obtain ⟨ad1, cp1, hv1⟩ := own_lenN hown1
  subst hv1
  have hb01 : Below W0.heap.size W0 W1 := hbd.trans (hb1.mono hbd.size)
  have hun := runtil_any es ad1 cp1 3300 W1 (evsC_of hown1) HEW.out.1 HEW.out.2.1 HEW.out.2.2 (HTG.out.below hb01)
  have HB01 := hidE hb01
  go_wp2_with fail
  refine ⟨rfl, hb1, ?_⟩
  clear hb1 hown1 hb01 hbd
  refine turn_n rfl ?_
  go_wp2_with fail
  refine hun.mono ?_
  rintro r W2 ⟨rfl, hb2⟩
  clear hun
  have HB02 : Hid (Below W0.heap.size W0 W2) := HB01.out.trans (hb2.mono HB01.out.size)
  obtain ⟨U, hU2⟩ : ∃ U, U = untl es 3300 := ⟨_, rfl⟩
  have hrm := radd_minus U ⟨t1', t2', t3', t4', t5'⟩ W2
  have hRU : R = U.minus ⟨t1', t2', t3', t4', t5'⟩ := by rw [HRR.out, hU2, HES.out]
  rw [← hRU] at hrm
  rw [← hU2]
  clear hU2
  obtain ⟨u1, u2, u3, u4, u5⟩ := U
  unfold figV at hrm ⊢
  simp only at hrm ⊢
  go_wp2_with fail
  refine ⟨rfl, hb2, ?_⟩
  clear hb2
  refine turn_n rfl ?_
  go_wp2_with fail
  refine hrm.mono ?_
  rintro r W3 ⟨rfl, hb3⟩
  clear hrm
  have HB03 : Hid (Below W0.heap.size W0 W3) := HB02.out.trans (hb3.mono HB02.out.size)
  have hRe : R = (untl (srt (asOf b b.n)) 3300).minus ⟨t1', t2', t3', t4', t5'⟩ := HRR.out
  have HRE := hidE hRe
  clear hRe hRU HRR
  obtain ⟨R1, R2, R3, R4, R5⟩ := R
  simp only
  go_wp2_with fail
  refine ⟨rfl, hb3, ?_⟩
  clear hb3
  have hF3 := HRF.out.below HB03.out
  have d0 := hF3.c0
  have d1 := hF3.c1
  have d2 := hF3.c2
  have d3 := hF3.c3
  have d4 := hF3.c4
  have e0 := hF3.z0
  have e1 := hF3.z1
  have e2 := hF3.z2
  have e3 := hF3.z3
  have e4 := hF3.z4
  simp only [fig0] at d0 d1 d2 d3 d4
  have HG := hidE (hF3.put ⟨R1, R2, R3, R4, R5⟩)
  have hB3 : Below w.heap.size w W3 := HB0.out.trans (HB03.out.mono HB0.out.size)
  have HBF : Hid (Below w.heap.size w (set5 W3 w.heap.size ⟨R1, R2, R3, R4, R5⟩)) := by
    refine ⟨(set5_oth _ _ _).1.trans hB3.os, (set5_oth _ _ _).2.1.trans hB3.tape, (set5_oth _ _ _).2.2.trans hB3.output, by rw [set5_size]; exact hB3.size, fun j hj => ?_⟩
    rw [set5_other _ _ _ (by omega)]; exact hB3.block j hj
  clear hF3 hB3
  refine turn_t rfl ?_
  go_wp2_with fail
  refine ⟨rfl, ?_⟩
  refine turn_nil ?_
  go_wp2
  have g0 := HG.out.c0
  have g1 := HG.out.c1
  have g2 := HG.out.c2
  have g3 := HG.out.c3
  have g4 := HG.out.c4
  unfold set5 at g0 g1 g2 g3 g4
  simp only at g0 g1 g2 g3 g4
  rw [← HRE.out]
  exact bodyPost_ret (v := .agg #[.int .i64 R1, .int .i64 R2, .int .i64 R3, .int .i64 R4, .int .i64 R5]) (by simp [results, Tryz.results12, go_sem, g0, g1, g2, g3, g4]) rfl ⟨rfl, HBF.out⟩
/-- Whether a day is late. -/
def lateD (cs : List Cl) (n : Int) : Bool := decide (0 ≤ n ∧ n ≤ 99999) && cov cs (dK n : Int)
set_option maxHeartbeats 1000000 in
theorem rlate_any {w : World} {B pq : Nat} {cv : Value} {cs : List Cl} {T : Fig} (hp : RPerAt w B pq cv cs T) (hl : cs.length ≤ 1000) (n : Int) :
    Calls Tryz.prog 20 #[.pointer (some ⟨pq, 0, none⟩), .int .i64 n] w fun r w' => r = .returned (.bool (lateD cs n)) ∧ Below w.heap.size w w' := by
  by_cases hn : 0 ≤ n ∧ n ≤ 99999
  · have hmo := rmonth_ok n w hn.1 hn.2
    have hla := rlastP_any hp hl
    have HLD : Hid (lateD cs n = decide ((dK n : Int) ≤ lastM cs)) := by
      show _ = _
      unfold lateD
      rw [decide_eq_true hn, cov_last cs _ (by omega)]; rfl
    obtain ⟨N, hN⟩ : ∃ N : Int, N = (dK n : Int) := ⟨_, rfl⟩
    rw [← hN] at hmo HLD
    clear hp hN
    go_enter Tryz.func20, Tryz.ntmps20
    go_wp2_with fail
    refine hmo.mono ?_
    rintro r w' ⟨rfl, hw'⟩
    subst w'
    clear hmo
    go_wp2_with fail
    refine hla.mono ?_
    rintro r w1 ⟨rfl, hb1⟩
    clear hla
    go_wp2
    go_ret
    exact ⟨by rw [HLD.out]; rfl, hb1⟩
  · have hmo := rmonth_bad n w (by omega)
    have HLD : Hid (lateD cs n = false) := by
      show _ = _
      unfold lateD
      rw [decide_eq_false hn]; rfl
    clear hp
    go_enter Tryz.func20, Tryz.ntmps20
    go_wp2_with fail
    refine hmo.mono ?_
    rintro r w' ⟨rfl, hw'⟩
    subst w'
    clear hmo
    go_wp2
    go_ret
    exact ⟨by rw [HLD.out]; rfl, Below.refl _ _⟩
theorem plate_any {w : World} {B pp : Nat} {cv : Value} {cs : List Cl} (hp : PerAt w B pp cv cs) (ht : LenTab w) (hl : cs.length ≤ 1000) (n : Int) :
    Calls Tryz.prog 19 #[.pointer (some ⟨pp, 0, none⟩), .int .i64 n] w fun r w' => r = .returned (.bool (lateD cs n)) ∧ Below w.heap.size w w' := by
  by_cases hn : 0 ≤ n ∧ n ≤ 99999
  · have := late_any hp ht hl n hn.1 hn.2
    unfold lateD
    rw [decide_eq_true hn]
    exact this
  · have hmo := dmonth_bad n w (by omega)
    have HLD : Hid (lateD cs n = false) := by
      show _ = _
      unfold lateD
      rw [decide_eq_false hn]; rfl
    clear hp
    go_enter Tryz.func19, Tryz.ntmps19
    go_wp2_with fail
    refine hmo.mono ?_
    rintro r w' ⟨rfl, hw'⟩
    subst w'
    clear hmo
    go_wp2
    go_ret
    exact ⟨by rw [HLD.out]; rfl, Below.refl _ _⟩
end Go.Proofs.YtcfgacdcgljbaaaGreatDoor
