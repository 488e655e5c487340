/- The walk of tallymankeep.PeriodMonths. -/
import Derived.Test.YtmldaiofghpfdaaGreatDoorPerShut
import Derived.Test.YtmldaiofghpfdaaGreatDoorBnNum
namespace Go.Proofs.YtmldaiofghpfdaaGreatDoor.periodMonths
open Go.Proofs.YtmldaiofghpfdaaGreatDoor
open Go.RowKit Go.Maps
def allF (f : Fig) (l : List Mon) : Fig := l.foldl (fun f x => f.plus x.f) f
theorem allF_append (f : Fig) (a b : List Mon) : allF f (a ++ b) = allF (allF f a) b := List.foldl_append ..
theorem below_box {w W : World} {g : Nat} (h : Below w.heap.size w W) (hg : w.heap.size ≤ g) (f : Fig) : Below w.heap.size w (set5 W g f) :=
  ⟨(set5_oth _ _ _).1.trans h.os, (set5_oth _ _ _).2.1.trans h.tape, (set5_oth _ _ _).2.2.trans h.output, by rw [set5_size]; exact h.size, fun j hj => by rw [set5_other _ _ _ (by omega)]; exact h.block j hj⟩
set_option maxRecDepth 20000 in
set_option maxHeartbeats 8000000 in
theorem walk (ao : Option Addr) (cap : Nat) (l : List Ev) (month : Int) (w : World) (hw : ∀ e ∈ l, EvW e) (h : EvsC w ao l) (hl : l.length ≤ maxLen) (hg : ErrType w) (ht : LenTab w) :
    Calls Tryz.prog 5 #[.slice ao l.length cap, .int .i64 month] w fun r w' => r = .returned (.bool true) ∧ Below w.heap.size w w' := by
  have hheld := held_any l ao cap w h hl
  have HC : Hid (EvsC w ao l) := h
  have HW : Hid (∀ e ∈ l, EvW e) := hw
  have HG : Hid (ErrType w) := hg
  have HT : Hid (LenTab w) := ht
  clear h hw hg ht
  by_cases hB : heldB l = true
  · rw [hB] at hheld
    have h40 : l.length ≤ 40 := by
      unfold heldB at hB
      simp only [Bool.and_eq_true, decide_eq_true_eq] at hB
      exact hB.1
    clear hB
    go_enter Tryz.func5, Tryz.ntmps5
    go_wp2_with fail
    refine hheld.mono ?_
    rintro r w1 ⟨rfl, hb1⟩
    have hsh := shut_any w1 (HG.out.below hb1) (HT.out.below hb1)
    go_wp2_with fail
    refine hsh.mono ?_
    rintro r w2 ⟨rfl, hb2⟩
    have hB2 : Below w.heap.size w w2 := hb1.trans (hb2.mono hb1.size)
    have hnum := numbered_any l ao cap w2 (HC.out.below hB2) HW.out (by omega)
    clear hsh
    go_wp2_with fail
    refine hnum.mono ?_
    rintro r w3 ⟨lv, rfl, hown3, hb3⟩
    have hB3 : Below w.heap.size w w3 := hB2.trans (hb3.mono hB2.size)
    have hnl := numb_len l
    have HEW : Hid (∀ y ∈ numb l, EvW y) := numb_w HW.out (by omega)
    have HND : Hid (((numb l).map (·.id)).Nodup) := numb_nodup l
    obtain ⟨L, hL⟩ : ∃ L, L = numb l := ⟨_, rfl⟩
    rw [← hL] at hown3 hnl HEW HND
    clear hL hheld hnum hb1 hb2 hb3
    have hmo := months_any L lv w3 (EvsAt.of_own hown3) HEW.out (by omega) HND.out (HT.out.below hB3)
    have hml := mons_len L
    have HAS : Hid (Asc (mons L) 3285) := mons_asc L
    obtain ⟨al, cl, hlv⟩ := own_lenN hown3
    have HOWN3 : Hid (w3.ownsRow w2.heap.size 44 7 lv L.length (L.flatMap evC)) := hown3
    have HUN : Hid (∀ m, untl L m = upto m fig0 (mons L)) := fun _ => rfl
    obtain ⟨ms, hms⟩ : ∃ ms, ms = mons L := ⟨_, rfl⟩
    rw [← hms] at hmo hml HAS HUN
    subst hlv
    clear hms hown3
    go_wp2_with fail
    refine hmo.mono ?_
    rintro r w4 ⟨mv, rfl, hown4, hb4⟩
    have hB4 : Below w.heap.size w w4 := hB3.trans (hb4.mono hB3.size)
    have HE4 : Hid (EvsAt w4 (.slice al L.length cl) L) := EvsAt.of_own (own_below HOWN3.out hb4 (Nat.le_refl _))
    have HT4 : Hid (LenTab w4) := HT.out.below hB4
    have HOWN4 : Hid (w4.ownsRow w3.heap.size 67 6 mv ms.length (ms.flatMap monC)) := hown4
    obtain ⟨am, cm, hmv⟩ := own_lenN hown4
    subst hmv
    obtain ⟨W5, hW5⟩ : ∃ W, W = (w4.alloc (.cells #[.int .i64 0, .int .i64 0, .int .i64 0, .int .i64 0, .int .i64 0] 38)).alloc (.cells #[.int .i64 0, .int .i64 0, .int .i64 0, .int .i64 0, .int .i64 0] 38) := ⟨_, rfl⟩
    have hb5 : Below w4.heap.size w4 W5 := by rw [hW5]; exact ((Below.refl _ _).alloc (Nat.le_refl _) _).alloc (by simp) _
    have HP5 : Hid (FigAt W5 w4.heap.size fig0) := by rw [hW5]; exact (fig_new w4).below ((Below.refl _ _).alloc (Nat.le_refl _) _)
    have HA5 : Hid (FigAt W5 (w4.heap.size + 1) fig0) := by
      rw [hW5]
      have := fig_new (w4.alloc (.cells #[.int .i64 0, .int .i64 0, .int .i64 0, .int .i64 0, .int .i64 0] 38))
      show FigAt _ _ _
      simpa using this
    have HW5 : Hid (W5 = _) := hW5
    clear hmo hown4 hb4 hB3 hB2 hW5 HOWN3
    go_wp2_with fail
    rw [← HW5.out]
    clear HW5
    go_loopw [8] (fun i wr => ∃ k : Nat, k ≤ ms.length ∧ i = .int .i64 k ∧ Hid (FigAt wr w4.heap.size (upto month fig0 (ms.take k))) ∧ Hid (FigAt wr (w4.heap.size + 1) (allF fig0 (ms.take k))) ∧ Hid (Below w4.heap.size w4 wr)) (fun i _ => ms.length - (intOf i).toNat)
    case atStart => exact ⟨0, Nat.zero_le _, rfl, HP5, HA5, hb5⟩
    case round =>
      obtain ⟨k, hk, rfl, HP, HA, HB⟩ := hrel
      by_cases hlt : k < ms.length
      · rcases own_form HOWN4.out with ⟨_, a2, _⟩ | ⟨g, cp, e1, hg1, hg2, _⟩
        · omega
        · simp only [Value.slice.injEq] at e1
          obtain ⟨rfl, _, rfl⟩ := e1
          obtain ⟨x, hx⟩ : ∃ x, x = ms[k] := ⟨_, rfl⟩
          have HTK : Hid (upto month fig0 (ms.take (k + 1)) = if x.n ≤ month then (upto month fig0 (ms.take k)).plus x.f else upto month fig0 (ms.take k)) := by
            show _ = _
            rw [List.take_succ_eq_append_getElem hlt, upto_append, hx]
            rfl
          have HTA : Hid (allF fig0 (ms.take (k + 1)) = (allF fig0 (ms.take k)).plus x.f) := by
            show _ = _
            rw [List.take_succ_eq_append_getElem hlt, allF_append, hx]
            rfl
          have hcm : ∀ (W : World) (_ : Below w4.heap.size w4 W) j, j < 6 → W.cell? ⟨g, k * 6 + j, none⟩ = (monC x)[j]? := fun W hb j hj => by
            rw [hb.cell (p := ⟨g, k * 6 + j, none⟩) hg2, (own_cell monC_len HOWN4.out k j hlt hj).1, hx]
          have HCM : Hid (∀ (W : World) (_ : Below w4.heap.size w4 W) j, j < 6 → W.cell? ⟨g, k * 6 + j, none⟩ = (monC x)[j]?) := hcm
          have HPR : Hid (∀ k', k = k' + 1 → ∃ y : Int, y < x.n ∧ ∀ (W : World) (_ : Below w4.heap.size w4 W), W.cell? ⟨g, k' * 6, none⟩ = some (.int .i64 y)) := fun k' hk' => by
            have hk2 : k' < ms.length := by omega
            refine ⟨ms[k'].n, ?_, fun W hb => ?_⟩
            · have := List.pairwise_iff_getElem.1 HAS.out.row k' k hk2 hlt (by omega)
              rw [hx]; exact this
            · rw [hb.cell (p := ⟨g, k' * 6, none⟩) hg2]
              have := (own_cell monC_len HOWN4.out k' 0 hk2 (by decide)).1
              simpa [monC] using this
          obtain ⟨xn, x1, x2, x3, x4, x5⟩ := x
          simp only at HTK HTA HPR
          clear hcm hx
          have hkz : (k : Int) < (ms.length : Int) := by omega
          have HC0 : Hid (∀ (W : World) (_ : Below w4.heap.size w4 W), W.cell? ⟨g, k * 6, none⟩ = some (.int .i64 xn)) := fun W hb => HCM.out W hb 0 (by decide)
          have HC1 : Hid (∀ (W : World) (_ : Below w4.heap.size w4 W), W.cell? ⟨g, k * 6 + 1, none⟩ = some (.int .i64 x1)) := fun W hb => HCM.out W hb 1 (by decide)
          have HC2 : Hid (∀ (W : World) (_ : Below w4.heap.size w4 W), W.cell? ⟨g, k * 6 + 2, none⟩ = some (.int .i64 x2)) := fun W hb => HCM.out W hb 2 (by decide)
          have HC3 : Hid (∀ (W : World) (_ : Below w4.heap.size w4 W), W.cell? ⟨g, k * 6 + 3, none⟩ = some (.int .i64 x3)) := fun W hb => HCM.out W hb 3 (by decide)
          have HC4 : Hid (∀ (W : World) (_ : Below w4.heap.size w4 W), W.cell? ⟨g, k * 6 + 4, none⟩ = some (.int .i64 x4)) := fun W hb => HCM.out W hb 4 (by decide)
          have HC5 : Hid (∀ (W : World) (_ : Below w4.heap.size w4 W), W.cell? ⟨g, k * 6 + 5, none⟩ = some (.int .i64 x5)) := fun W hb => HCM.out W hb 5 (by decide)
          obtain ⟨P, hP⟩ : ∃ P, P = upto month fig0 (ms.take k) := ⟨_, rfl⟩
          obtain ⟨A, hA0⟩ : ∃ A, A = allF fig0 (ms.take k) := ⟨_, rfl⟩
          rw [← hP] at HP HTK
          rw [← hA0] at HA HTA
          clear hP hA0 HCM
          obtain ⟨P1, P2, P3, P4, P5⟩ := P
          obtain ⟨A1, A2, A3, A4, A5⟩ := A
          have mixed := csP.mixed
          have hs4 := HB.out.size
          rcases Nat.eq_zero_or_pos k with hk0 | hk0
          · have hkn : ¬ (0 : Int) < (k : Int) := by omega
            have hkn2 : ¬ 0 < k := by omega
            have hkn3 : decide (0 < k) = false := by simpa using hk0
            clear hk0
            go_wp2_with fail
            go_quiet (fail)
            obtain ⟨W6, hW6⟩ : ∃ X, X = wr.drewN nq := ⟨_, rfl⟩
            rw [← hW6]
            have b6 : Below wr.heap.size wr W6 := by rw [hW6]; exact drew_same _ _
            have hB6 : Below w4.heap.size w4 W6 := HB.out.trans (b6.mono HB.out.size)
            have hP6 := HP.out.below b6
            have hA6 := HA.out.below b6
            have c0 := HC0.out W6 hB6
            clear hW6
            by_cases hc : xn ≤ month
            · rw [if_pos hc] at HTK
              go_wp2_with fail
              clear c0
              refine wp_region_turn [(.read, 0), (.pure, 1), (.pure, 2), (.pure, 3), (.pure, 4), (.read, 5), (.make, 6), (.turn, 7)] (by kernel_rfl) (by kernel_rfl) ?_
              obtain ⟨DS, hDS⟩ : ∃ X, X = W6.drew := ⟨_, rfl⟩
              rw [← hDS]
              have hbDS : Below W6.heap.size W6 DS := by rw [hDS]; exact below_drew _
              have hBDS : Below w4.heap.size w4 DS := hB6.trans (hbDS.mono hB6.size)
              have hXS := hP6.below hbDS
              have hOS := hA6.below hbDS
              have hU := up_ne
              have hA := anyW_ne
              have p0 := fun n : Up DS => n.cell hXS.c0
              have p1 := fun n : Up DS => n.cell hXS.c1
              have p2 := fun n : Up DS => n.cell hXS.c2
              have p3 := fun n : Up DS => n.cell hXS.c3
              have p4 := fun n : Up DS => n.cell hXS.c4
              have p5 := fun n : Up DS => n.cell (HC1.out DS hBDS)
              have p6 := fun n : Up DS => n.cell (HC2.out DS hBDS)
              have p7 := fun n : Up DS => n.cell (HC3.out DS hBDS)
              have p8 := fun n : Up DS => n.cell (HC4.out DS hBDS)
              have p9 := fun n : Up DS => n.cell (HC5.out DS hBDS)
              simp only at p0 p1 p2 p3 p4
              have hpl := plus_any ⟨P1, P2, P3, P4, P5⟩ ⟨x1, x2, x3, x4, x5⟩ DS
              obtain ⟨S, hS⟩ : ∃ R, R = Fig.plus ⟨P1, P2, P3, P4, P5⟩ ⟨x1, x2, x3, x4, x5⟩ := ⟨_, rfl⟩
              rw [← hS] at hpl HTK
              obtain ⟨S1, S2, S3, S4, S5⟩ := S
              unfold figV at hpl
              simp only at hpl
              clear hDS hS
              repeat (first | refine turn_p rfl ?_ | refine turn_q rfl ?_); go_big_quiet_step (fail); refine wpQuiet_nil ?_
              refine turn_n rfl ?_
              clear p0 p1 p2 p3 p4 p5 p6 p7 p8 p9
              go_wp2_with fail
              refine hpl.mono ?_
              rintro r vS ⟨rfl, hbvS⟩
              clear hpl
              have hXvS := hXS.below hbvS
              have hOvS := hOS.below hbvS
              have d0 := hXvS.c0
              have d1 := hXvS.c1
              have d2 := hXvS.c2
              have d3 := hXvS.c3
              have d4 := hXvS.c4
              have e0 := hXvS.z0
              have e1 := hXvS.z1
              have e2 := hXvS.z2
              have e3 := hXvS.z3
              have e4 := hXvS.z4
              simp only at d0 d1 d2 d3 d4
              go_wp2_with fail
              refine ⟨rfl, hbvS, ?_⟩
              refine turn_t rfl ?_
              go_wp2_with fail
              refine ⟨rfl, ?_⟩
              refine turn_nil ?_
              obtain ⟨WS, hWS⟩ : ∃ X, X = set5 vS w4.heap.size ⟨S1, S2, S3, S4, S5⟩ := ⟨_, rfl⟩
              have hPS : FigAt WS w4.heap.size ⟨S1, S2, S3, S4, S5⟩ := by rw [hWS]; exact hXvS.put _
              have hAS : FigAt WS (w4.heap.size + 1) ⟨A1, A2, A3, A4, A5⟩ := by rw [hWS]; exact hOvS.same (set5_other _ _ _ (by omega))
              have hBS : Below w4.heap.size w4 WS := by rw [hWS]; exact below_box (hBDS.trans (hbvS.mono hBDS.size)) (by omega) _
              unfold set5 at hWS
              simp only at hWS
              rw [← hWS]
              clear hWS hXS hOS hXvS hOvS d0 d1 d2 d3 d4 e0 e1 e2 e3 e4 hbDS hBDS hbvS
              go_wp2_with fail
              refine wp_region_turn [(.read, 0), (.pure, 1), (.pure, 2), (.pure, 3), (.pure, 4), (.read, 5), (.make, 6), (.turn, 7)] (by kernel_rfl) (by kernel_rfl) ?_
              obtain ⟨DT, hDT⟩ : ∃ X, X = WS.drew := ⟨_, rfl⟩
              rw [← hDT]
              have hbDT : Below WS.heap.size WS DT := by rw [hDT]; exact below_drew _
              have hBDT : Below w4.heap.size w4 DT := hBS.trans (hbDT.mono hBS.size)
              have hXT := hAS.below hbDT
              have hOT := hPS.below hbDT
              have hU := up_ne
              have hA := anyW_ne
              have p0 := fun n : Up DT => n.cell hXT.c0
              have p1 := fun n : Up DT => n.cell hXT.c1
              have p2 := fun n : Up DT => n.cell hXT.c2
              have p3 := fun n : Up DT => n.cell hXT.c3
              have p4 := fun n : Up DT => n.cell hXT.c4
              have p5 := fun n : Up DT => n.cell (HC1.out DT hBDT)
              have p6 := fun n : Up DT => n.cell (HC2.out DT hBDT)
              have p7 := fun n : Up DT => n.cell (HC3.out DT hBDT)
              have p8 := fun n : Up DT => n.cell (HC4.out DT hBDT)
              have p9 := fun n : Up DT => n.cell (HC5.out DT hBDT)
              simp only at p0 p1 p2 p3 p4
              have hpl := plus_any ⟨A1, A2, A3, A4, A5⟩ ⟨x1, x2, x3, x4, x5⟩ DT
              obtain ⟨T, hT⟩ : ∃ R, R = Fig.plus ⟨A1, A2, A3, A4, A5⟩ ⟨x1, x2, x3, x4, x5⟩ := ⟨_, rfl⟩
              rw [← hT] at hpl HTA
              obtain ⟨T1, T2, T3, T4, T5⟩ := T
              unfold figV at hpl
              simp only at hpl
              clear hDT hT
              repeat (first | refine turn_p rfl ?_ | refine turn_q rfl ?_); go_big_quiet_step (fail); refine wpQuiet_nil ?_
              refine turn_n rfl ?_
              clear p0 p1 p2 p3 p4 p5 p6 p7 p8 p9
              go_wp2_with fail
              refine hpl.mono ?_
              rintro r vT ⟨rfl, hbvT⟩
              clear hpl
              have hXvT := hXT.below hbvT
              have hOvT := hOT.below hbvT
              have d0 := hXvT.c0
              have d1 := hXvT.c1
              have d2 := hXvT.c2
              have d3 := hXvT.c3
              have d4 := hXvT.c4
              have e0 := hXvT.z0
              have e1 := hXvT.z1
              have e2 := hXvT.z2
              have e3 := hXvT.z3
              have e4 := hXvT.z4
              simp only at d0 d1 d2 d3 d4
              go_wp2_with fail
              refine ⟨rfl, hbvT, ?_⟩
              refine turn_t rfl ?_
              go_wp2_with fail
              refine ⟨rfl, ?_⟩
              refine turn_nil ?_
              obtain ⟨WT, hWT⟩ : ∃ X, X = set5 vT (w4.heap.size + 1) ⟨T1, T2, T3, T4, T5⟩ := ⟨_, rfl⟩
              have hAT : FigAt WT (w4.heap.size + 1) ⟨T1, T2, T3, T4, T5⟩ := by rw [hWT]; exact hXvT.put _
              have hPT : FigAt WT w4.heap.size ⟨S1, S2, S3, S4, S5⟩ := by rw [hWT]; exact hOvT.same (set5_other _ _ _ (by omega))
              have hBT : Below w4.heap.size w4 WT := by rw [hWT]; exact below_box (hBDT.trans (hbvT.mono hBDT.size)) (by omega) _
              unfold set5 at hWT
              simp only at hWT
              rw [← hWT]
              clear hWT hXT hOT hXvT hOvT d0 d1 d2 d3 d4 e0 e1 e2 e3 e4 hbDT hBDT hbvT
              go_wp2
              go_roundw
              case rel => exact ⟨k + 1, by omega, by go_num, (by show FigAt _ _ _; rw [HTK.out]; exact hPT), (by show FigAt _ _ _; rw [HTA.out]; exact hAT), hBT⟩
              case measure => simp [intOf]; omega
            · rw [if_neg hc] at HTK
              go_wp2_with fail
              clear c0
              refine wp_region_turn [(.read, 0), (.pure, 1), (.pure, 2), (.pure, 3), (.pure, 4), (.read, 5), (.make, 6), (.turn, 7)] (by kernel_rfl) (by kernel_rfl) ?_
              obtain ⟨DT, hDT⟩ : ∃ X, X = W6.drew := ⟨_, rfl⟩
              rw [← hDT]
              have hbDT : Below W6.heap.size W6 DT := by rw [hDT]; exact below_drew _
              have hBDT : Below w4.heap.size w4 DT := hB6.trans (hbDT.mono hB6.size)
              have hXT := hA6.below hbDT
              have hOT := hP6.below hbDT
              have hU := up_ne
              have hA := anyW_ne
              have p0 := fun n : Up DT => n.cell hXT.c0
              have p1 := fun n : Up DT => n.cell hXT.c1
              have p2 := fun n : Up DT => n.cell hXT.c2
              have p3 := fun n : Up DT => n.cell hXT.c3
              have p4 := fun n : Up DT => n.cell hXT.c4
              have p5 := fun n : Up DT => n.cell (HC1.out DT hBDT)
              have p6 := fun n : Up DT => n.cell (HC2.out DT hBDT)
              have p7 := fun n : Up DT => n.cell (HC3.out DT hBDT)
              have p8 := fun n : Up DT => n.cell (HC4.out DT hBDT)
              have p9 := fun n : Up DT => n.cell (HC5.out DT hBDT)
              simp only at p0 p1 p2 p3 p4
              have hpl := plus_any ⟨A1, A2, A3, A4, A5⟩ ⟨x1, x2, x3, x4, x5⟩ DT
              obtain ⟨T, hT⟩ : ∃ R, R = Fig.plus ⟨A1, A2, A3, A4, A5⟩ ⟨x1, x2, x3, x4, x5⟩ := ⟨_, rfl⟩
              rw [← hT] at hpl HTA
              obtain ⟨T1, T2, T3, T4, T5⟩ := T
              unfold figV at hpl
              simp only at hpl
              clear hDT hT
              repeat (first | refine turn_p rfl ?_ | refine turn_q rfl ?_); go_big_quiet_step (fail); refine wpQuiet_nil ?_
              refine turn_n rfl ?_
              clear p0 p1 p2 p3 p4 p5 p6 p7 p8 p9
              go_wp2_with fail
              refine hpl.mono ?_
              rintro r vT ⟨rfl, hbvT⟩
              clear hpl
              have hXvT := hXT.below hbvT
              have hOvT := hOT.below hbvT
              have d0 := hXvT.c0
              have d1 := hXvT.c1
              have d2 := hXvT.c2
              have d3 := hXvT.c3
              have d4 := hXvT.c4
              have e0 := hXvT.z0
              have e1 := hXvT.z1
              have e2 := hXvT.z2
              have e3 := hXvT.z3
              have e4 := hXvT.z4
              simp only at d0 d1 d2 d3 d4
              go_wp2_with fail
              refine ⟨rfl, hbvT, ?_⟩
              refine turn_t rfl ?_
              go_wp2_with fail
              refine ⟨rfl, ?_⟩
              refine turn_nil ?_
              obtain ⟨WT, hWT⟩ : ∃ X, X = set5 vT (w4.heap.size + 1) ⟨T1, T2, T3, T4, T5⟩ := ⟨_, rfl⟩
              have hAT : FigAt WT (w4.heap.size + 1) ⟨T1, T2, T3, T4, T5⟩ := by rw [hWT]; exact hXvT.put _
              have hPT : FigAt WT w4.heap.size ⟨P1, P2, P3, P4, P5⟩ := by rw [hWT]; exact hOvT.same (set5_other _ _ _ (by omega))
              have hBT : Below w4.heap.size w4 WT := by rw [hWT]; exact below_box (hBDT.trans (hbvT.mono hBDT.size)) (by omega) _
              unfold set5 at hWT
              simp only at hWT
              rw [← hWT]
              clear hWT hXT hOT hXvT hOvT d0 d1 d2 d3 d4 e0 e1 e2 e3 e4 hbDT hBDT hbvT
              go_wp2
              go_roundw
              case rel => exact ⟨k + 1, by omega, by go_num, (by show FigAt _ _ _; rw [HTK.out]; exact hPT), (by show FigAt _ _ _; rw [HTA.out]; exact hAT), hBT⟩
              case measure => simp [intOf]; omega
          · obtain ⟨k', hk'⟩ : ∃ k', k = k' + 1 := ⟨k - 1, by omega⟩
            obtain ⟨y, hyx, hyc⟩ := HPR.out k' hk'
            subst hk'
            have q1 : ∀ j, (wr.drewN j).cell? ⟨g, k' * 6, none⟩ = some (.int .i64 y) := fun j => hyc _ (HB.out.trans ((drew_same wr j).mono HB.out.size))
            have q2 : ∀ j, (wr.drewN j).cell? ⟨g, (k' + 1) * 6, none⟩ = some (.int .i64 xn) := fun j => HC0.out _ (HB.out.trans ((drew_same wr j).mono HB.out.size))
            have hyn : ¬ (xn ≤ y) := by omega
            clear hyc HPR hk0
            go_wp2_with fail
            go_quiet (fail)
            clear q1 q2
            obtain ⟨W6, hW6⟩ : ∃ X, X = wr.drewN nq := ⟨_, rfl⟩
            rw [← hW6]
            have b6 : Below wr.heap.size wr W6 := by rw [hW6]; exact drew_same _ _
            have hB6 : Below w4.heap.size w4 W6 := HB.out.trans (b6.mono HB.out.size)
            have hP6 := HP.out.below b6
            have hA6 := HA.out.below b6
            have c0 := HC0.out W6 hB6
            clear hW6
            by_cases hc : xn ≤ month
            · rw [if_pos hc] at HTK
              go_wp2_with fail
              clear c0
              refine wp_region_turn [(.read, 0), (.pure, 1), (.pure, 2), (.pure, 3), (.pure, 4), (.read, 5), (.make, 6), (.turn, 7)] (by kernel_rfl) (by kernel_rfl) ?_
              obtain ⟨DS, hDS⟩ : ∃ X, X = W6.drew := ⟨_, rfl⟩
              rw [← hDS]
              have hbDS : Below W6.heap.size W6 DS := by rw [hDS]; exact below_drew _
              have hBDS : Below w4.heap.size w4 DS := hB6.trans (hbDS.mono hB6.size)
              have hXS := hP6.below hbDS
              have hOS := hA6.below hbDS
              have hU := up_ne
              have hA := anyW_ne
              have p0 := fun n : Up DS => n.cell hXS.c0
              have p1 := fun n : Up DS => n.cell hXS.c1
              have p2 := fun n : Up DS => n.cell hXS.c2
              have p3 := fun n : Up DS => n.cell hXS.c3
              have p4 := fun n : Up DS => n.cell hXS.c4
              have p5 := fun n : Up DS => n.cell (HC1.out DS hBDS)
              have p6 := fun n : Up DS => n.cell (HC2.out DS hBDS)
              have p7 := fun n : Up DS => n.cell (HC3.out DS hBDS)
              have p8 := fun n : Up DS => n.cell (HC4.out DS hBDS)
              have p9 := fun n : Up DS => n.cell (HC5.out DS hBDS)
              simp only at p0 p1 p2 p3 p4
              have hpl := plus_any ⟨P1, P2, P3, P4, P5⟩ ⟨x1, x2, x3, x4, x5⟩ DS
              obtain ⟨S, hS⟩ : ∃ R, R = Fig.plus ⟨P1, P2, P3, P4, P5⟩ ⟨x1, x2, x3, x4, x5⟩ := ⟨_, rfl⟩
              rw [← hS] at hpl HTK
              obtain ⟨S1, S2, S3, S4, S5⟩ := S
              unfold figV at hpl
              simp only at hpl
              clear hDS hS
              repeat (first | refine turn_p rfl ?_ | refine turn_q rfl ?_); go_big_quiet_step (fail); refine wpQuiet_nil ?_
              refine turn_n rfl ?_
              clear p0 p1 p2 p3 p4 p5 p6 p7 p8 p9
              go_wp2_with fail
              refine hpl.mono ?_
              rintro r vS ⟨rfl, hbvS⟩
              clear hpl
              have hXvS := hXS.below hbvS
              have hOvS := hOS.below hbvS
              have d0 := hXvS.c0
              have d1 := hXvS.c1
              have d2 := hXvS.c2
              have d3 := hXvS.c3
              have d4 := hXvS.c4
              have e0 := hXvS.z0
              have e1 := hXvS.z1
              have e2 := hXvS.z2
              have e3 := hXvS.z3
              have e4 := hXvS.z4
              simp only at d0 d1 d2 d3 d4
              go_wp2_with fail
              refine ⟨rfl, hbvS, ?_⟩
              refine turn_t rfl ?_
              go_wp2_with fail
              refine ⟨rfl, ?_⟩
              refine turn_nil ?_
              obtain ⟨WS, hWS⟩ : ∃ X, X = set5 vS w4.heap.size ⟨S1, S2, S3, S4, S5⟩ := ⟨_, rfl⟩
              have hPS : FigAt WS w4.heap.size ⟨S1, S2, S3, S4, S5⟩ := by rw [hWS]; exact hXvS.put _
              have hAS : FigAt WS (w4.heap.size + 1) ⟨A1, A2, A3, A4, A5⟩ := by rw [hWS]; exact hOvS.same (set5_other _ _ _ (by omega))
              have hBS : Below w4.heap.size w4 WS := by rw [hWS]; exact below_box (hBDS.trans (hbvS.mono hBDS.size)) (by omega) _
              unfold set5 at hWS
              simp only at hWS
              rw [← hWS]
              clear hWS hXS hOS hXvS hOvS d0 d1 d2 d3 d4 e0 e1 e2 e3 e4 hbDS hBDS hbvS
              go_wp2_with fail
              refine wp_region_turn [(.read, 0), (.pure, 1), (.pure, 2), (.pure, 3), (.pure, 4), (.read, 5), (.make, 6), (.turn, 7)] (by kernel_rfl) (by kernel_rfl) ?_
              obtain ⟨DT, hDT⟩ : ∃ X, X = WS.drew := ⟨_, rfl⟩
              rw [← hDT]
              have hbDT : Below WS.heap.size WS DT := by rw [hDT]; exact below_drew _
              have hBDT : Below w4.heap.size w4 DT := hBS.trans (hbDT.mono hBS.size)
              have hXT := hAS.below hbDT
              have hOT := hPS.below hbDT
              have hU := up_ne
              have hA := anyW_ne
              have p0 := fun n : Up DT => n.cell hXT.c0
              have p1 := fun n : Up DT => n.cell hXT.c1
              have p2 := fun n : Up DT => n.cell hXT.c2
              have p3 := fun n : Up DT => n.cell hXT.c3
              have p4 := fun n : Up DT => n.cell hXT.c4
              have p5 := fun n : Up DT => n.cell (HC1.out DT hBDT)
              have p6 := fun n : Up DT => n.cell (HC2.out DT hBDT)
              have p7 := fun n : Up DT => n.cell (HC3.out DT hBDT)
              have p8 := fun n : Up DT => n.cell (HC4.out DT hBDT)
              have p9 := fun n : Up DT => n.cell (HC5.out DT hBDT)
              simp only at p0 p1 p2 p3 p4
              have hpl := plus_any ⟨A1, A2, A3, A4, A5⟩ ⟨x1, x2, x3, x4, x5⟩ DT
              obtain ⟨T, hT⟩ : ∃ R, R = Fig.plus ⟨A1, A2, A3, A4, A5⟩ ⟨x1, x2, x3, x4, x5⟩ := ⟨_, rfl⟩
              rw [← hT] at hpl HTA
              obtain ⟨T1, T2, T3, T4, T5⟩ := T
              unfold figV at hpl
              simp only at hpl
              clear hDT hT
              repeat (first | refine turn_p rfl ?_ | refine turn_q rfl ?_); go_big_quiet_step (fail); refine wpQuiet_nil ?_
              refine turn_n rfl ?_
              clear p0 p1 p2 p3 p4 p5 p6 p7 p8 p9
              go_wp2_with fail
              refine hpl.mono ?_
              rintro r vT ⟨rfl, hbvT⟩
              clear hpl
              have hXvT := hXT.below hbvT
              have hOvT := hOT.below hbvT
              have d0 := hXvT.c0
              have d1 := hXvT.c1
              have d2 := hXvT.c2
              have d3 := hXvT.c3
              have d4 := hXvT.c4
              have e0 := hXvT.z0
              have e1 := hXvT.z1
              have e2 := hXvT.z2
              have e3 := hXvT.z3
              have e4 := hXvT.z4
              simp only at d0 d1 d2 d3 d4
              go_wp2_with fail
              refine ⟨rfl, hbvT, ?_⟩
              refine turn_t rfl ?_
              go_wp2_with fail
              refine ⟨rfl, ?_⟩
              refine turn_nil ?_
              obtain ⟨WT, hWT⟩ : ∃ X, X = set5 vT (w4.heap.size + 1) ⟨T1, T2, T3, T4, T5⟩ := ⟨_, rfl⟩
              have hAT : FigAt WT (w4.heap.size + 1) ⟨T1, T2, T3, T4, T5⟩ := by rw [hWT]; exact hXvT.put _
              have hPT : FigAt WT w4.heap.size ⟨S1, S2, S3, S4, S5⟩ := by rw [hWT]; exact hOvT.same (set5_other _ _ _ (by omega))
              have hBT : Below w4.heap.size w4 WT := by rw [hWT]; exact below_box (hBDT.trans (hbvT.mono hBDT.size)) (by omega) _
              unfold set5 at hWT
              simp only at hWT
              rw [← hWT]
              clear hWT hXT hOT hXvT hOvT d0 d1 d2 d3 d4 e0 e1 e2 e3 e4 hbDT hBDT hbvT
              go_wp2
              go_roundw
              case rel => exact ⟨(k' + 1) + 1, by omega, by go_num, (by show FigAt _ _ _; rw [HTK.out]; exact hPT), (by show FigAt _ _ _; rw [HTA.out]; exact hAT), hBT⟩
              case measure => simp [intOf]; omega
            · rw [if_neg hc] at HTK
              go_wp2_with fail
              clear c0
              refine wp_region_turn [(.read, 0), (.pure, 1), (.pure, 2), (.pure, 3), (.pure, 4), (.read, 5), (.make, 6), (.turn, 7)] (by kernel_rfl) (by kernel_rfl) ?_
              obtain ⟨DT, hDT⟩ : ∃ X, X = W6.drew := ⟨_, rfl⟩
              rw [← hDT]
              have hbDT : Below W6.heap.size W6 DT := by rw [hDT]; exact below_drew _
              have hBDT : Below w4.heap.size w4 DT := hB6.trans (hbDT.mono hB6.size)
              have hXT := hA6.below hbDT
              have hOT := hP6.below hbDT
              have hU := up_ne
              have hA := anyW_ne
              have p0 := fun n : Up DT => n.cell hXT.c0
              have p1 := fun n : Up DT => n.cell hXT.c1
              have p2 := fun n : Up DT => n.cell hXT.c2
              have p3 := fun n : Up DT => n.cell hXT.c3
              have p4 := fun n : Up DT => n.cell hXT.c4
              have p5 := fun n : Up DT => n.cell (HC1.out DT hBDT)
              have p6 := fun n : Up DT => n.cell (HC2.out DT hBDT)
              have p7 := fun n : Up DT => n.cell (HC3.out DT hBDT)
              have p8 := fun n : Up DT => n.cell (HC4.out DT hBDT)
              have p9 := fun n : Up DT => n.cell (HC5.out DT hBDT)
              simp only at p0 p1 p2 p3 p4
              have hpl := plus_any ⟨A1, A2, A3, A4, A5⟩ ⟨x1, x2, x3, x4, x5⟩ DT
              obtain ⟨T, hT⟩ : ∃ R, R = Fig.plus ⟨A1, A2, A3, A4, A5⟩ ⟨x1, x2, x3, x4, x5⟩ := ⟨_, rfl⟩
              rw [← hT] at hpl HTA
              obtain ⟨T1, T2, T3, T4, T5⟩ := T
              unfold figV at hpl
              simp only at hpl
              clear hDT hT
              repeat (first | refine turn_p rfl ?_ | refine turn_q rfl ?_); go_big_quiet_step (fail); refine wpQuiet_nil ?_
              refine turn_n rfl ?_
              clear p0 p1 p2 p3 p4 p5 p6 p7 p8 p9
              go_wp2_with fail
              refine hpl.mono ?_
              rintro r vT ⟨rfl, hbvT⟩
              clear hpl
              have hXvT := hXT.below hbvT
              have hOvT := hOT.below hbvT
              have d0 := hXvT.c0
              have d1 := hXvT.c1
              have d2 := hXvT.c2
              have d3 := hXvT.c3
              have d4 := hXvT.c4
              have e0 := hXvT.z0
              have e1 := hXvT.z1
              have e2 := hXvT.z2
              have e3 := hXvT.z3
              have e4 := hXvT.z4
              simp only at d0 d1 d2 d3 d4
              go_wp2_with fail
              refine ⟨rfl, hbvT, ?_⟩
              refine turn_t rfl ?_
              go_wp2_with fail
              refine ⟨rfl, ?_⟩
              refine turn_nil ?_
              obtain ⟨WT, hWT⟩ : ∃ X, X = set5 vT (w4.heap.size + 1) ⟨T1, T2, T3, T4, T5⟩ := ⟨_, rfl⟩
              have hAT : FigAt WT (w4.heap.size + 1) ⟨T1, T2, T3, T4, T5⟩ := by rw [hWT]; exact hXvT.put _
              have hPT : FigAt WT w4.heap.size ⟨P1, P2, P3, P4, P5⟩ := by rw [hWT]; exact hOvT.same (set5_other _ _ _ (by omega))
              have hBT : Below w4.heap.size w4 WT := by rw [hWT]; exact below_box (hBDT.trans (hbvT.mono hBDT.size)) (by omega) _
              unfold set5 at hWT
              simp only at hWT
              rw [← hWT]
              clear hWT hXT hOT hXvT hOvT d0 d1 d2 d3 d4 e0 e1 e2 e3 e4 hbDT hBDT hbvT
              go_wp2
              go_roundw
              case rel => exact ⟨(k' + 1) + 1, by omega, by go_num, (by show FigAt _ _ _; rw [HTK.out]; exact hPT), (by show FigAt _ _ _; rw [HTA.out]; exact hAT), hBT⟩
              case measure => simp [intOf]; omega
      · obtain rfl : k = ms.length := by omega
        rw [List.take_length, ← HUN.out month] at HP
        have hall : allF fig0 ms = untl L 3300 := by
          rw [HUN.out 3300]
          exact (upto_all ms 3300 fig0 fun x hx => by have := (HAS.out.bd x hx).2; omega).symm
        rw [List.take_length, hall] at HA
        have HOK : Hid (untl L month).ok := untl_ok L month
        obtain ⟨P, hP⟩ : ∃ P, P = untl L month := ⟨_, rfl⟩
        obtain ⟨A, hA0⟩ : ∃ A, A = untl L 3300 := ⟨_, rfl⟩
        have HUP : Hid (untl L month = P ∧ untl L 3300 = A) := ⟨hP.symm, hA0.symm⟩
        rw [← hP] at HP HOK
        rw [← hA0] at HA
        clear hP hA0 hall HUN HOWN4
        go_wp2_with fail
        refine wp_region_mix [(true, 0), (true, 1), (true, 3), (false, 2), (true, 4), (true, 5), (true, 6), (true, 8), (false, 7), (true, 9), (true, 10), (true, 11), (true, 12), (true, 13), (true, 15), (true, 17), (false, 14), (false, 16), (true, 18), (true, 19), (true, 20)] (by kernel_rfl) (by kernel_rfl) ?_
        obtain ⟨W7, hW7⟩ : ∃ X, X = wr.drew := ⟨_, rfl⟩
        rw [← hW7]
        have b7 : Below wr.heap.size wr W7 := by rw [hW7]; exact below_drew _
        have hB7 : Below w4.heap.size w4 W7 := HB.out.trans (b7.mono HB.out.size)
        have hP7 := HP.out.below b7
        have hA7 := HA.out.below b7
        clear hW7 b7
        have hu1 := until_any L _ month W7 (HE4.out.below hB7) HEW.out (by omega) HND.out (HT4.out.below hB7)
        rw [HUP.out.1] at hu1
        have HPM : Hid ((P.plus A).minus A = P) := plus_minus A HOK.out
        obtain ⟨P1, P2, P3, P4, P5⟩ := P
        obtain ⟨A1, A2, A3, A4, A5⟩ := A
        unfold figV at hu1
        simp only at hu1
        have hU := up_ne
        have p0 := fun n : Up W7 => n.cell hP7.c0
        have p1 := fun n : Up W7 => n.cell hP7.c1
        have p2 := fun n : Up W7 => n.cell hP7.c2
        have p3 := fun n : Up W7 => n.cell hP7.c3
        have p4 := fun n : Up W7 => n.cell hP7.c4
        simp only at p0 p1 p2 p3 p4
        repeat (refine mix_q rfl ?_; go_big_quiet_step (fail); refine wpQuiet_nil ?_)
        refine mix_n rfl ?_
        clear p0 p1 p2 p3 p4
        go_wp2_with fail
        refine hu1.mono ?_
        rintro r w8 ⟨rfl, b8⟩
        clear hu1
        have hB8 : Below w4.heap.size w4 w8 := hB7.trans (b8.mono hB7.size)
        have hP8 := hP7.below b8
        have hA8 := hA7.below b8
        go_wp2_with fail
        refine ⟨rfl, b8, ?_⟩
        have hu2 := until_any L _ 3300 w8 (HE4.out.below hB8) HEW.out (by omega) HND.out (HT4.out.below hB8)
        rw [HUP.out.2] at hu2
        unfold figV at hu2
        simp only at hu2
        have p0 := fun n : Up w8 => n.cell hA8.c0
        have p1 := fun n : Up w8 => n.cell hA8.c1
        have p2 := fun n : Up w8 => n.cell hA8.c2
        have p3 := fun n : Up w8 => n.cell hA8.c3
        have p4 := fun n : Up w8 => n.cell hA8.c4
        simp only at p0 p1 p2 p3 p4
        repeat (refine mix_q rfl ?_; go_big_quiet_step (fail); refine wpQuiet_nil ?_)
        refine mix_n rfl ?_
        clear p0 p1 p2 p3 p4
        go_wp2_with fail
        refine hu2.mono ?_
        rintro r w9 ⟨rfl, b9⟩
        clear hu2
        have hB9 : Below w4.heap.size w4 w9 := hB8.trans (b9.mono hB8.size)
        have hP9 := hP8.below b9
        have hA9 := hA8.below b9
        go_wp2_with fail
        refine ⟨rfl, b9, ?_⟩
        have p0 := fun n : Up w9 => n.cell hA9.c0
        have p1 := fun n : Up w9 => n.cell hA9.c1
        have p2 := fun n : Up w9 => n.cell hA9.c2
        have p3 := fun n : Up w9 => n.cell hA9.c3
        have p4 := fun n : Up w9 => n.cell hA9.c4
        have p5 := fun n : Up w9 => n.cell hP9.c0
        have p6 := fun n : Up w9 => n.cell hP9.c1
        have p7 := fun n : Up w9 => n.cell hP9.c2
        have p8 := fun n : Up w9 => n.cell hP9.c3
        have p9 := fun n : Up w9 => n.cell hP9.c4
        simp only at p0 p1 p2 p3 p4 p5 p6 p7 p8 p9
        repeat (refine mix_q rfl ?_; go_big_quiet_step (fail); refine wpQuiet_nil ?_)
        refine mix_n rfl ?_
        clear p0 p1 p2 p3 p4 p5 p6 p7 p8 p9
        have hpl := plus_any ⟨P1, P2, P3, P4, P5⟩ ⟨A1, A2, A3, A4, A5⟩ w9
        obtain ⟨S, hS⟩ : ∃ S, S = Fig.plus ⟨P1, P2, P3, P4, P5⟩ ⟨A1, A2, A3, A4, A5⟩ := ⟨_, rfl⟩
        rw [← hS] at hpl HPM
        clear hS
        obtain ⟨S1, S2, S3, S4, S5⟩ := S
        unfold figV at hpl
        simp only at hpl
        go_wp2_with fail
        refine hpl.mono ?_
        rintro r w10 ⟨rfl, b10⟩
        clear hpl
        have hB10 : Below w4.heap.size w4 w10 := hB9.trans (b10.mono hB9.size)
        go_wp2_with fail
        refine ⟨rfl, b10, ?_⟩
        refine mix_n rfl ?_
        have hmi := minus_any ⟨S1, S2, S3, S4, S5⟩ ⟨A1, A2, A3, A4, A5⟩ w10
        rw [HPM.out] at hmi
        unfold figV at hmi
        simp only at hmi
        go_wp2_with fail
        refine hmi.mono ?_
        rintro r w11 ⟨rfl, b11⟩
        clear hmi
        have hB11 : Below w4.heap.size w4 w11 := hB10.trans (b11.mono hB10.size)
        go_wp2_with fail
        refine ⟨rfl, b11, ?_⟩
        repeat (refine mix_q rfl ?_; go_big_quiet_step (fail); refine wpQuiet_nil ?_)
        refine mix_nil ?_
        go_wp2
        go_ret
        exact ⟨rfl, hB4.trans (hB11.mono hB4.size)⟩
  · have hB' : heldB l = false := by simpa using hB
    rw [hB'] at hheld
    go_enter Tryz.func5, Tryz.ntmps5
    go_wp2_with fail
    refine hheld.mono ?_
    rintro r w1 ⟨rfl, hb1⟩
    go_wp2
    go_ret
    exact ⟨rfl, hb1⟩
end Go.Proofs.YtmldaiofghpfdaaGreatDoor.periodMonths
