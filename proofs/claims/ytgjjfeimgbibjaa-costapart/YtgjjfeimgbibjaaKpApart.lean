/- The walk of tallymankeep.CostApart. -/
import Derived.Test.YtgjjfeimgbibjaaKpApartF
namespace Go.Proofs.Ytgjjfeimgbibjaa.costApart
open Go.Proofs.Ytgjjfeimgbibjaa
open Go.RowKit Go.Shelf Go.Maps
set_option maxRecDepth 20000 in
set_option maxHeartbeats 8000000 in
theorem walk (ao : Option Addr) (cap : Nat) (l : List Ev) (w : World) (hw : ∀ e ∈ l, EvW e) (h : EvsC w ao l) (hl : l.length ≤ maxLen) :
    Calls Try.prog 5 #[.slice ao l.length cap] w fun r w' => r = .returned (.bool true) ∧ Below w.heap.size w w' := by
  have hheld := held_any l ao cap w h hl
  have HC : Hid (EvsC w ao l) := h
  have HW : Hid (∀ e ∈ l, EvW e) := hw
  clear h hw
  by_cases hB : heldB l = true
  · rw [hB] at hheld
    have h40 : l.length ≤ 40 := by
      unfold heldB at hB
      simp only [Bool.and_eq_true, decide_eq_true_eq] at hB
      exact hB.1
    clear hB
    go_enter Try.func5, Try.ntmps5
    go_wp2_with fail
    refine hheld.mono ?_
    rintro r w1 ⟨rfl, hb1⟩
    go_wp2_with fail
    refine (told_any w1).mono ?_
    rintro r w2 ⟨rfl, hb2⟩
    have hB2 : Below w.heap.size w w2 := hb1.trans (hb2.mono hb1.size)
    have hnum := numbered_any l ao cap w2 (HC.out.below hB2) HW.out (by omega)
    go_wp2_with fail
    refine hnum.mono ?_
    rintro r w3 ⟨lv, rfl, hown3, hb3⟩
    have hB3 : Below w.heap.size w w3 := hB2.trans (hb3.mono hB2.size)
    have hnl := numb_len l
    have HRT : Hid (∀ y ∈ numb l, Rt y) := numb_rt
    have HEW : Hid (∀ y ∈ numb l, EvW y) := numb_w HW.out (by omega)
    have HND : Hid (((numb l).map (·.id)).Nodup) := numb_nodup l
    obtain ⟨L, hL⟩ : ∃ L, L = numb l := ⟨_, rfl⟩
    rw [← hL] at hown3 hnl HRT HEW HND
    clear hL hheld hnum hb1 hb2 hb3
    obtain ⟨al, cl, hlv, hcl⟩ := (EvsAt.of_own hown3).toC
    subst hlv
    have hrunL := run_any L _ w3 (EvsAt.of_own hown3) HEW.out (by omega)
    have HOWN3 : Hid (w3.ownsRow w2.heap.size 30 7 (.slice al L.length cl) L.length (L.flatMap evC)) := hown3
    have HCL : Hid (EvsC w3 al L) := hcl
    clear hown3 hcl
    go_wp2_with fail
    refine hrunL.mono ?_
    rintro r w4 ⟨rv, rfl, hres, hb4⟩
    have hB4 : Below w.heap.size w w4 := hB3.trans (hb4.mono hB3.size)
    have hLl : (goL stk00 (ordd L)).length ≤ L.length := by rw [goL_len, ordd_stl HRT.out, stl_len]; exact Nat.le_refl _
    have HAP : Hid (∀ x m, m = L.filter (fun e => decide (e.item = x)) → goS stk00 (ordd m) x = goS stk00 (ordd L) x ∧ goL stk00 (ordd m) = (goL stk00 (ordd L)).filter fun y => m.any fun e => decide (e.id = y.id)) := fun x m hm => apart HRT.out HND.out hm
    have HOKL : Hid (∀ x, StkOK L.length (goS stk00 (ordd L) x)) := fun x => by
      have := (goS_ok (ordd L) 0 stk00 (fun y => stk0_ok 0) fun e he => HRT.out e (by rw [ordd_stl HRT.out] at he; exact (stl_perm L).mem_iff.1 he)).1 x
      rw [Nat.zero_add, ordd_stl HRT.out, stl_len] at this
      rw [ordd_stl HRT.out]
      exact this
    obtain ⟨MR, hMR⟩ : ∃ M, M = goS stk00 (ordd L) := ⟨_, rfl⟩
    obtain ⟨lr, hlr⟩ : ∃ ls, ls = goL stk00 (ordd L) := ⟨_, rfl⟩
    rw [← hMR, ← hlr] at hres HAP
    rw [← hMR] at HOKL
    rw [← hlr] at hLl
    obtain ⟨u, mb, nn, D, V, rfl, g1, g2, g3⟩ := hres
    obtain ⟨ad, capu, hu⟩ := own_lenN g3.own
    subst hu
    have HRR : Hid (RunRes w3.heap.size w4 mb nn D V MR (.slice ad lr.length capu) lr) := g3
    obtain ⟨w5, hw5⟩ : ∃ W, W = w4.alloc (.cells #[.slice ad lr.length capu, .map (some mb)] 35) := ⟨_, rfl⟩
    have hb5 : Below w4.heap.size w4 w5 := by rw [hw5]; exact (Below.refl _ _).alloc (Nat.le_refl _) _
    have r5 : w5.cell? ⟨w4.heap.size, 0, none⟩ = some (.slice ad lr.length capu) ∧ w5.cell? ⟨w4.heap.size, 1, none⟩ = some (.map (some mb)) := by rw [hw5]; simp
    have hs5 : w5.heap.size = w4.heap.size + 1 := by rw [hw5]; simp
    have HW5 : Hid (w5 = _) := hw5
    have HR5 : Hid _ := r5
    have HB5 : Hid (Below w4.heap.size w4 w5) := hb5
    have hB5 : Below w.heap.size w w5 := hB4.trans (hb5.mono hB4.size)
    have h35 : Below w3.heap.size w3 w5 := hb4.trans (hb5.mono hb4.size)
    have HB35 : Hid (Below w3.heap.size w3 w5) := h35
    have hitm := items_any L al cl w5 (HCL.out.below h35) (by omega)
    clear hrunL hMR hlr g1 g2 g3 hw5 r5
    go_wp2_with fail
    rw [← HW5.out]
    refine hitm.mono ?_
    rintro r w6 ⟨sv, rfl, hown6, hb6⟩
    have hsl := its_len L
    have HSM : Hid (∀ x ∈ itsL L, ∃ e ∈ L, e.item = x) := fun x hx => its_mem hx
    obtain ⟨S, hS⟩ : ∃ S, S = itsL L := ⟨_, rfl⟩
    rw [← hS] at hown6 hsl HSM
    have hB6 : Below w.heap.size w w6 := hB5.trans (hb6.mono hB5.size)
    obtain ⟨asv, cs, hsv⟩ := own_lenN hown6
    subst hsv
    have HOWN6 : Hid (w6.ownsRow w5.heap.size 9 1 (.slice asv S.length cs) S.length (S.flatMap strC)) := hown6
    obtain ⟨w7, hw7⟩ : ∃ W, W = w6.alloc (.cells #[.slice asv S.length cs] 26) := ⟨_, rfl⟩
    have hb7 : Below w6.heap.size w6 w7 := by rw [hw7]; exact (Below.refl _ _).alloc (Nat.le_refl _) _
    have r7 : w7.cell? ⟨w6.heap.size, 0, none⟩ = some (.slice asv S.length cs) := by rw [hw7]; simp
    have hs7 : w7.heap.size = w6.heap.size + 1 := by rw [hw7]; simp
    have HR7 : Hid (w7.cell? ⟨w6.heap.size, 0, none⟩ = some (.slice asv S.length cs)) := r7
    have HB7 : Hid (Below w6.heap.size w6 w7) := hb7
    have h57 : Below w5.heap.size w5 w7 := hb6.trans (hb7.mono hb6.size)
    have h37 : Below w3.heap.size w3 w7 := h35.trans (h57.mono h35.size)
    have HL7 : Hid (w7.ownsRow w2.heap.size 30 7 (.slice al L.length cl) L.length (L.flatMap evC)) := own_below HOWN3.out h37 (Nat.le_refl _)
    have HRR7 : Hid (RunRes w3.heap.size w7 mb nn D V MR (.slice ad lr.length capu) lr) := (HRR.out.below HB5.out).below h57
    have HRA : Hid (w7.cell? ⟨w4.heap.size, 0, none⟩ = some (.slice ad lr.length capu)) := (h57.cell (p := ⟨w4.heap.size, 0, none⟩) (by show w4.heap.size < _; omega)).trans HR5.out.1
    have HRB : Hid (w7.cell? ⟨w4.heap.size, 1, none⟩ = some (.map (some mb))) := (h57.cell (p := ⟨w4.heap.size, 1, none⟩) (by show w4.heap.size < _; omega)).trans HR5.out.2
    have hB7 : Below w.heap.size w w7 := hB6.trans (hb7.mono hB6.size)
    have hz7 : w4.heap.size < w7.heap.size := by have := h57.size; omega
    have HW7 : Hid (w7 = _) := hw7
    clear hS hitm hown6 hw7 r7 hb7 h57 h37 h35
    go_wp2
    rw [← HW7.out]
    go_loopw [5] (fun p wr => ∃ (k ib : Nat), k ≤ S.length ∧ p = .pointer (some ⟨ib, 0, none⟩) ∧ wr.cell? ⟨ib, 0, none⟩ = some (.int .i64 k) ∧ wr.frozen? ⟨ib, 0, none⟩ = false ∧ w7.heap.size ≤ ib ∧ Hid (Below w7.heap.size w7 wr)) (fun p wr => S.length - boxN p wr)
    case atStart => exact ⟨0, w7.heap.size, Nat.zero_le _, by rw [hs7], by rw [hs7]; simp [← hs7], by rw [hs7]; simp [← hs7], Nat.le_refl _, (Below.refl _ _).alloc (Nat.le_refl _) _⟩
    case round =>
      obtain ⟨k, ib, hk, rfl, hci, hfi, hib, HBR⟩ := hrel
      obtain ⟨wo, hwo⟩ : ∃ X, X = wr := ⟨_, rfl⟩
      subst hwo
      have HBZ : Hid (boxN (.pointer (some ⟨ib, 0, none⟩)) wo = k) := boxN_eq hci
      have hrz := HBR.out.size
      have hibl : ib < wo.heap.size := World.block_lt_of_cell? _ _ hci
      have ca : ∀ W, Below wo.heap.size wo W → W.cell? ⟨w6.heap.size, 0, none⟩ = some (.slice asv S.length cs) := fun W hb => (hb.cell (p := ⟨w6.heap.size, 0, none⟩) (by show w6.heap.size < _; omega)).trans ((HBR.out.cell (p := ⟨w6.heap.size, 0, none⟩) (by show w6.heap.size < _; omega)).trans HR7.out)
      have ca0 := ca wo (Below.refl _ _)
      by_cases hlt : k < S.length
      · obtain ⟨x, hx⟩ : ∃ x, x = S[k] := ⟨_, rfl⟩
        rcases str_form HOWN6.out with ⟨a1, a2⟩ | ⟨gs, cs', e1, hgs, hcs⟩
        · rw [a2] at hlt; exact absurd hlt (Nat.not_lt_zero _)
        · simp only [Value.slice.injEq] at e1
          obtain ⟨rfl, _, rfl⟩ := e1
          have cx : ∀ W, Below wo.heap.size wo W → W.cell? ⟨gs, k, none⟩ = some (.string x) := fun W hb => (hb.cell (p := ⟨gs, k, none⟩) (by show gs < _; omega)).trans ((HBR.out.cell (p := ⟨gs, k, none⟩) (by show gs < _; omega)).trans ((HB7.out.cell (p := ⟨gs, k, none⟩) hgs).trans (by rw [hcs k hlt, hx])))
          have ci : ∀ W, Below wo.heap.size wo W → W.cell? ⟨ib, 0, none⟩ = some (.int .i64 k) := fun W hb => (hb.cell (p := ⟨ib, 0, none⟩) hibl).trans hci
          have cra : ∀ W, Below wo.heap.size wo W → W.cell? ⟨w4.heap.size, 0, none⟩ = some (.slice ad lr.length capu) := fun W hb => (hb.cell (p := ⟨w4.heap.size, 0, none⟩) (by show w4.heap.size < _; omega)).trans ((HBR.out.cell (p := ⟨w4.heap.size, 0, none⟩) hz7).trans HRA.out)
          have crb : ∀ W, Below wo.heap.size wo W → W.cell? ⟨w4.heap.size, 1, none⟩ = some (.map (some mb)) := fun W hb => (hb.cell (p := ⟨w4.heap.size, 1, none⟩) (by show w4.heap.size < _; omega)).trans ((HBR.out.cell (p := ⟨w4.heap.size, 1, none⟩) hz7).trans HRB.out)
          have HRRo : Hid (RunRes w3.heap.size wo mb nn D V MR (.slice ad lr.length capu) lr) := HRR7.out.below HBR.out
          have HXM : Hid (∃ e ∈ L, e.item = x) := HSM.out x (by rw [hx]; exact List.getElem_mem hlt)
          have hxs : x.size ≤ 10 := by
            obtain ⟨e, he, hx⟩ := HXM.out
            rw [← hx]; exact rt_size (HRT.out e he)
          have HCA : Hid _ := ca
          have HCX : Hid _ := cx
          have HCI : Hid _ := ci
          have HCRA : Hid _ := cra
          have HCRB : Hid _ := crb
          have ownr : wo.ownsRow w2.heap.size 30 7 (.slice al L.length cl) L.length (L.flatMap evC) := own_below HL7.out HBR.out (Nat.le_refl _)
          have hclo := clone_any L _ wo ownr (by omega)
          clear hcs hx ca cx ci cra crb ownr
          go_wp2_with fail
          refine hclo.mono ?_
          rintro r w8 ⟨v8, rfl, own8, hb8⟩
          have hvb : ∀ j, v8.ownBlock = some j → wo.heap.size ≤ j := fun j hj => (own8.lt j hj).1
          have gb : ∀ W, w8.grownBy W v8.ownBlock → Below wo.heap.size wo W := fun W hg => hb8.trans ⟨hg.os, hg.tape, hg.output, by have := hg.size; have := hb8.size; omega, fun j hj => hg.block j (by have := hb8.size; omega) (fun e => by have := hvb j e.symm; omega)⟩
          have hdel := del_any L v8 w8 own8 (by omega) 22 #[.pointer (some ⟨w6.heap.size, 0, none⟩), .pointer (some ⟨ib, 0, none⟩)] (fun e => !decide (e.item = x)) (enters_of Try.func22 (by kernel_rfl) rfl)
            (fun e W hg => ap1_any e x w6.heap.size ib gs S.length cs k W (HCA.out W (gb W hg)) (HCI.out W (gb W hg)) (HCX.out W (gb W hg)) hlt)
          have HGB : Hid _ := gb
          clear hclo own8 hvb gb
          go_wp2_with fail
          refine hdel.mono ?_
          rintro r w9 ⟨v9, rfl, own9, hg9⟩
          have hb9 : Below wo.heap.size wo w9 := HGB.out w9 hg9
          have hmw : ∀ e ∈ L.filter (fun e => !!decide (e.item = x)), EvW e := fun e he => HEW.out e (List.mem_filter.1 he).1
          have hml : (L.filter (fun e => !!decide (e.item = x))).length ≤ L.length := List.length_filter_le ..
          have hmn : L.filter (fun e => !!decide (e.item = x)) = L.filter (fun e => decide (e.item = x)) := by simp only [Bool.not_not]
          obtain ⟨m, hm⟩ : ∃ m, m = L.filter (fun e => !!decide (e.item = x)) := ⟨_, rfl⟩
          rw [← hm] at own9 hmw hml hmn
          obtain ⟨am, cm, hv9, hcm⟩ := (EvsAt.of_own own9).toC
          subst hv9
          obtain ⟨w10, hw10⟩ : ∃ W, W = w9.alloc (.cells #[.slice am m.length cm] 22) := ⟨_, rfl⟩
          have hb10 : Below w9.heap.size w9 w10 := by rw [hw10]; exact (Below.refl _ _).alloc (Nat.le_refl _) _
          have r10 : w10.cell? ⟨w9.heap.size, 0, none⟩ = some (.slice am m.length cm) := by rw [hw10]; simp
          have hs10 : w9.heap.size < w10.heap.size := by rw [hw10]; simp
          have hrun := run_any m _ w10 (EvsAt.of_own (own_below own9 hb10 (Nat.le_refl _))) hmw (by omega)
          have HCM : Hid (EvsC w10 am m) := hcm.below hb10
          have HW10 : Hid (w10 = _) := hw10
          have HR10 : Hid (w10.cell? ⟨w9.heap.size, 0, none⟩ = some (.slice am m.length cm)) := r10
          have hb10o : Below wo.heap.size wo w10 := hb9.trans (hb10.mono hb9.size)
          have HAPX := HAP.out x m hmn
          clear hdel hm hmn hg9 hmw own9 hcm hw10
          go_wp2_with fail
          rw [← HW10.out]
          refine hrun.mono ?_
          rintro r w11 ⟨rv, rfl, hres, hb11⟩
          have hmL : (goL stk00 (ordd m)).length ≤ lr.length := by rw [HAPX.2]; exact List.length_filter_le ..
          have hms : goS stk00 (ordd m) x = MR x := HAPX.1
          have hfl : lr.filter (fun y => !!(m.any fun e => decide (e.id = y.id))) = goL stk00 (ordd m) := by simp only [Bool.not_not]; exact HAPX.2.symm
          obtain ⟨M, hM⟩ : ∃ M, M = goS stk00 (ordd m) := ⟨_, rfl⟩
          obtain ⟨ls, hls⟩ : ∃ ls, ls = goL stk00 (ordd m) := ⟨_, rfl⟩
          rw [← hM, ← hls] at hres
          rw [← hM] at hms
          rw [← hls] at hmL hfl
          have HFL : Hid (lr.filter (fun y => !!(m.any fun e => decide (e.id = y.id))) = ls) := hfl
          have HMS : Hid (M x = MR x) := hms
          obtain ⟨u2, mb2, nn2, D2, V2, rfl, g1, g2, g3⟩ := hres
          obtain ⟨ad2, capu2, hu2⟩ := own_lenN g3.own
          subst hu2
          have HRM : Hid (RunRes w10.heap.size w11 mb2 nn2 D2 V2 M (.slice ad2 ls.length capu2) ls) := g3
          obtain ⟨w12, hw12⟩ : ∃ W, W = w11.alloc (.cells #[.slice ad2 ls.length capu2, .map (some mb2)] 35) := ⟨_, rfl⟩
          have hb12 : Below w11.heap.size w11 w12 := by rw [hw12]; exact (Below.refl _ _).alloc (Nat.le_refl _) _
          have r12 : w12.cell? ⟨w11.heap.size, 0, none⟩ = some (.slice ad2 ls.length capu2) ∧ w12.cell? ⟨w11.heap.size, 1, none⟩ = some (.map (some mb2)) := by rw [hw12]; simp
          have hs12 : w11.heap.size < w12.heap.size := by rw [hw12]; simp
          have HW12 : Hid (w12 = _) := hw12
          have HR12 : Hid _ := r12
          have h1012 : Below w10.heap.size w10 w12 := hb11.trans (hb12.mono hb11.size)
          have HB1012 : Hid (Below w10.heap.size w10 w12) := h1012
          have hb12o : Below wo.heap.size wo w12 := hb10o.trans (h1012.mono hb10o.size)
          have HRM12 : Hid (RunRes w10.heap.size w12 mb2 nn2 D2 V2 M (.slice ad2 ls.length capu2) ls) := HRM.out.below hb12
          have HRR12 : Hid (RunRes w3.heap.size w12 mb nn D V MR (.slice ad lr.length capu) lr) := HRRo.out.below hb12o
          have hclo2 := clone_lin lr _ w12 HRR12.out.own (by omega)
          have hcra := HCRA.out w12 hb12o
          have hcra' := fun o : Obj => HCRA.out (w11.alloc o) ((hb10o.trans (hb11.mono hb10o.size)).alloc (by have := hb10o.size; have := hb11.size; omega) o)
          clear hrun HAPX hfl hms hM hls g1 g2 g3 hw12 r12 h1012
          go_wp2_with fail
          rw [← HW12.out]
          refine hclo2.mono ?_
          rintro r w13 ⟨v13, rfl, own13, hb13⟩
          have hvb : ∀ j, v13.ownBlock = some j → w12.heap.size ≤ j := fun j hj => (own13.lt j hj).1
          have gb : ∀ W, w13.grownBy W v13.ownBlock → Below w12.heap.size w12 W := fun W hg => hb13.trans ⟨hg.os, hg.tape, hg.output, by have := hg.size; have := hb13.size; omega, fun j hj => hg.block j (by have := hb13.size; omega) (fun e => by have := hvb j e.symm; omega)⟩
          have hdel2 := del_lin lr v13 w13 own13 (by omega) 25 #[.pointer (some ⟨w9.heap.size, 0, none⟩)] (fun y => !m.any fun e => decide (e.id = y.id)) (enters_of Try.func25 (by kernel_rfl) rfl)
            (fun y W hg => by
              have hbw : Below w10.heap.size w10 W := HB1012.out.trans ((gb W hg).mono HB1012.out.size)
              exact ap2_any y m am cm w9.heap.size W ((hbw.cell (p := ⟨w9.heap.size, 0, none⟩) hs10).trans HR10.out) (HCM.out.below hbw) (by omega))
          have HGB2 : Hid _ := gb
          clear hclo2 own13 hvb gb hcra hcra'
          go_wp2_with fail
          refine hdel2.mono ?_
          rintro r w14 ⟨v14, rfl, own14, hg14⟩
          rw [HFL.out] at own14
          have hb14 : Below w12.heap.size w12 w14 := HGB2.out w14 hg14
          have hb14o : Below wo.heap.size wo w14 := hb12o.trans (hb14.mono hb12o.size)
          clear hdel2 hg14
          have bd : ∀ j, Below w14.heap.size w14 (w14.drewN j) := fun j => ⟨rfl, rfl, rfl, Nat.le_refl _, fun _ _ => rfl⟩
          have hrm := HRM12.out.below hb14
          have hrr := HRR12.out.below hb14
          have q0 : ∀ j, (w14.drewN j).cell? ⟨w11.heap.size, 0, none⟩ = some (.slice ad2 ls.length capu2) := fun j => (hb14.cell (p := ⟨w11.heap.size, 0, none⟩) hs12).trans HR12.out.1
          have q1 : ∀ j, (w14.drewN j).cell? ⟨w11.heap.size, 1, none⟩ = some (.map (some mb2)) := fun j => (hb14.cell (p := ⟨w11.heap.size, 1, none⟩) hs12).trans HR12.out.2
          have q2 : ∀ j, (w14.drewN j).cell? ⟨w6.heap.size, 0, none⟩ = some (.slice (some ⟨gs, 0, none⟩) S.length cs) := fun j => HCA.out w14 hb14o
          have q3 : ∀ j, (w14.drewN j).cell? ⟨ib, 0, none⟩ = some (.int .i64 k) := fun j => HCI.out w14 hb14o
          have q4 : ∀ j, (w14.drewN j).cell? ⟨gs, k, none⟩ = some (.string x) := fun j => HCX.out w14 hb14o
          have q5 : ∀ j, (w14.drewN j).cell? ⟨w4.heap.size, 1, none⟩ = some (.map (some mb)) := fun j => HCRB.out w14 hb14o
          have hlk1 := fun j => lookV (hrm.below (bd j)) x (by unfold maxLen; omega)
          have hlk2 := fun j => lookV (hrr.below (bd j)) x (by unfold maxLen; omega)
          have hE1 := fun j => eqLin_any ls _ _ (w14.drewN j) (hrm.below (bd j)).own (own_below own14 (bd j) (Nat.le_refl _)) (by omega)
          have hyl : (MR x).ys.length ≤ 40 := by have := (HOKL.out x).len; omega
          have hE2 := fun j => eqLay_any (MR x).ys _ _ (w14.drewN j) (by have := lookL (hrm.below (bd j)) x; rw [HMS.out] at this; exact this) (lookL (hrr.below (bd j)) x) (by omega)
          rw [HMS.out] at hlk1
          generalize (if (MR x).ys.isEmpty = true then Value.slice none 0 0 else V2 x) = lv1 at hlk1 hE2
          generalize (if (MR x).ys.isEmpty = true then Value.slice none 0 0 else V x) = lv2 at hlk2 hE2
          obtain ⟨ad3, capu3, hu3⟩ := own_lenN own14
          subst hu3
          have hkz : (k : Int) < (S.length : Int) := by omega
          have mixed := csP.mixed
          clear own14 hrm hrr
          go_wp2_with fail
          go_quiet (first | (go_at_call 18; refine Calls.quiet_of (hE1 _)) | (go_at_call 21; refine Calls.quiet_of (hE2 _)))
          clear q0 q1 q2 q3 q4 q5 hlk1 hlk2 hE1 hE2 mixed
          have hbN : Below wo.heap.size wo (w14.drewN nq) := hb14o.trans ((bd nq).mono hb14o.size)
          obtain ⟨wn, hwn⟩ : ∃ W, W = w14.drewN nq := ⟨_, rfl⟩
          rw [← hwn] at hbN
          rw [← hwn]
          clear hwn bd
          have di := HCI.out wn hbN
          have hkz2 : (k : Int) + 1 ≤ 1000 := by omega
          have hqz := hbN.size
          have HFIN : Hid (Below w7.heap.size w7 (wn.alloc (.cells #[.int .i64 ((k : Int) + 1)] 3))) := (HBR.out.trans (hbN.mono hrz)).alloc (by omega) _
          have hcn : (wn.alloc (.cells #[.int .i64 ((k : Int) + 1)] 3)).cell? ⟨wn.heap.size, 0, none⟩ = some (.int .i64 ((k + 1 : Nat) : Int)) := by simp
          have hfn : (wn.alloc (.cells #[.int .i64 ((k : Int) + 1)] 3)).frozen? ⟨wn.heap.size, 0, none⟩ = false := by simp
          have HCN : Hid _ := hcn
          have HFN : Hid _ := hfn
          clear hcn hfn
          go_wp2
          go_roundw
          case rel => exact ⟨k + 1, wn.heap.size, by omega, rfl, HCN.out, HFN.out, by omega, HFIN⟩
          case measure =>
            rw [HBZ.out, boxN_eq HCN.out]
            omega
      · obtain rfl : k = S.length := by omega
        go_wp2
        go_ret
        exact ⟨rfl, hB7.trans (HBR.out.mono hB7.size)⟩
  · have hB' : heldB l = false := by simpa using hB
    rw [hB'] at hheld
    go_enter Try.func5, Try.ntmps5
    go_wp2_with fail
    refine hheld.mono ?_
    rintro r w1 ⟨rfl, hb1⟩
    go_wp2
    go_ret
    exact ⟨rfl, hb1⟩
end Go.Proofs.Ytgjjfeimgbibjaa.costApart
