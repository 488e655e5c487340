/- The walk of tallymankeep.CostCausal. -/
import Derived.Test.YtgjjfeimgbibjaaKpCausM
import Derived.Test.YtgjjfeimgbibjaaKpApartF
import Derived.Test.YtgjjfeimgbibjaaMoneyPick
import Derived.Test.YtgjjfeimgbibjaaMixS
namespace Go.Proofs.Ytgjjfeimgbibjaa.costCausal
open Go.Proofs.Ytgjjfeimgbibjaa
open Go.Proofs.Ytgjjfeimgbibjaa.costApart (lookV lookL)
open Go.RowKit Go.Shelf Go.Maps
set_option maxHeartbeats 1000000 in
theorem caus1_any (e : Ev) (n : Int) (nb : Nat) (W : World) (h0 : W.cell? ⟨nb, 0, none⟩ = some (.int .i64 n)) :
    Calls Try.prog 17 (#[evV e] ++ #[.pointer (some ⟨nb, 0, none⟩)]) W fun r w' => r = .returned (.bool (decide (n < e.day))) ∧ Below W.heap.size W w' := by
  obtain ⟨id, item, kind, qty, price, ofI, day⟩ := e
  unfold evV
  simp only
  have l0 := World.block_lt_of_cell? _ _ h0
  have b := fun o : Obj => (Below.refl W.heap.size W).alloc (Nat.le_refl _) o
  have c0 := fun o : Obj => ((b o).cell (p := ⟨nb, 0, none⟩) l0).trans h0
  have HB : Hid _ := b
  clear b h0
  by_cases hd : n < day
  · go_enter Try.func17, Try.ntmps17
    go_wp2
    go_ret
    exact ⟨by simp, HB.out _⟩
  · go_enter Try.func17, Try.ntmps17
    go_wp2
    go_ret
    exact ⟨by simp [hd], HB.out _⟩
set_option maxRecDepth 20000 in
set_option maxHeartbeats 8000000 in
theorem walk (ao : Option Addr) (cap : Nat) (l : List Ev) (n by_ : Int) (w : World) (hw : ∀ e ∈ l, EvW e) (h : EvsC w ao l) (hl : l.length ≤ maxLen) :
    Calls Try.prog 4 #[.slice ao l.length cap, .int .i64 n, .int .i64 by_] w fun r w' => r = .returned (.bool true) ∧ Below w.heap.size w w' := by
  obtain ⟨w0, hw0⟩ : ∃ W, W = w.alloc (.cells #[.int .i64 n] 3) := ⟨_, rfl⟩
  have hb0 : Below w.heap.size w w0 := by rw [hw0]; exact (Below.refl _ _).alloc (Nat.le_refl _) _
  have r0 : w0.cell? ⟨w.heap.size, 0, none⟩ = some (.int .i64 n) := by rw [hw0]; simp
  have hs0 : w.heap.size < w0.heap.size := by rw [hw0]; simp
  have HW0 : Hid (w0 = _) := hw0
  have HR0 : Hid (w0.cell? ⟨w.heap.size, 0, none⟩ = some (.int .i64 n)) := r0
  have hheld := held_any l ao cap w0 (h.below hb0) hl
  have HC : Hid (EvsC w0 ao l) := h.below hb0
  have HW : Hid (∀ e ∈ l, EvW e) := hw
  clear h hw hw0 r0
  by_cases hB : heldB l = true
  · rw [hB] at hheld
    have h40 : l.length ≤ 40 := by
      unfold heldB at hB
      simp only [Bool.and_eq_true, decide_eq_true_eq] at hB
      exact hB.1
    clear hB
    go_enter Try.func4, Try.ntmps4
    go_wp2_with fail
    rw [← HW0.out]
    refine hheld.mono ?_
    rintro r w1 ⟨rfl, hb1⟩
    go_wp2_with fail
    refine (told_any w1).mono ?_
    rintro r w2 ⟨rfl, hb2⟩
    have hB2 : Below w0.heap.size w0 w2 := hb1.trans (hb2.mono hb1.size)
    have hnum := numbered_any l ao cap w2 (HC.out.below hB2) HW.out (by omega)
    go_wp2_with fail
    refine hnum.mono ?_
    rintro r w3 ⟨lv, rfl, hown3, hb3⟩
    have hB3 : Below w0.heap.size w0 w3 := hB2.trans (hb3.mono hB2.size)
    have hnl := numb_len l
    have HRT : Hid (∀ y ∈ numb l, Rt y) := numb_rt
    have HEW : Hid (∀ y ∈ numb l, EvW y) := numb_w HW.out (by omega)
    have HND : Hid (((numb l).map (·.id)).Nodup) := numb_nodup l
    obtain ⟨L, hL⟩ : ∃ L, L = numb l := ⟨_, rfl⟩
    rw [← hL] at hown3 hnl HRT HEW HND
    clear hL hheld hnum hb1 hb2 hb3
    obtain ⟨al, cl, hlv, hcl⟩ := (EvsAt.of_own hown3).toC
    subst hlv
    have hrunL := run_any L _ w3 (EvsAt.of_own hown3) HEW.out (by omega)
    have HOWN3 : Hid (w3.ownsRow w2.heap.size 30 7 (.slice al L.length cl) L.length (L.flatMap evC)) := hown3
    have HCL : Hid (EvsC w3 al L) := hcl
    clear hown3 hcl
    go_wp2_with fail
    refine hrunL.mono ?_
    rintro r w4 ⟨rv, rfl, hres, hb4⟩
    have hB4 : Below w0.heap.size w0 w4 := hB3.trans (hb4.mono hB3.size)
    have hLl : (goL stk00 (ordd L)).length ≤ L.length := by rw [goL_len, ordd_stl HRT.out, stl_len]; exact Nat.le_refl _
    have HCAU : Hid (∃ c, c ≤ L.length ∧ goL stk00 (ordd (L.filter fun e => !decide (n < e.day))) = (goL stk00 (ordd L)).take c) := causal n HRT.out HND.out
    have HSAME : Hid (∀ L', L'.Perm L → ordd L' = ordd L) := fun L' hp => same_order hp HRT.out HND.out
    have hLe : (goL stk00 (ordd L)).length = 0 → L.length = 0 := fun h => by rw [goL_len, ordd_stl HRT.out, stl_len] at h; exact h
    have HOKL : Hid (∀ x, StkOK L.length (goS stk00 (ordd L) x)) := fun x => by
      have := (goS_ok (ordd L) 0 stk00 (fun y => stk0_ok 0) fun e he => HRT.out e (by rw [ordd_stl HRT.out] at he; exact (stl_perm L).mem_iff.1 he)).1 x
      rw [Nat.zero_add, ordd_stl HRT.out, stl_len] at this
      rw [ordd_stl HRT.out]
      exact this
    obtain ⟨MR, hMR⟩ : ∃ M, M = goS stk00 (ordd L) := ⟨_, rfl⟩
    obtain ⟨lr, hlr⟩ : ∃ ls, ls = goL stk00 (ordd L) := ⟨_, rfl⟩
    rw [← hMR, ← hlr] at hres
    rw [← hMR] at HOKL
    rw [← hlr] at hLl hLe HCAU
    have HMR : Hid (MR = goS stk00 (ordd L) ∧ lr = goL stk00 (ordd L)) := ⟨hMR, hlr⟩
    have HLE : Hid (lr.length = 0 → L.length = 0) := hLe
    obtain ⟨u, mb, nn, D, V, rfl, g1, g2, g3⟩ := hres
    obtain ⟨ad, capu, hu⟩ := own_lenN g3.own
    subst hu
    have HRR : Hid (RunRes w3.heap.size w4 mb nn D V MR (.slice ad lr.length capu) lr) := g3
    obtain ⟨w5, hw5⟩ : ∃ W, W = w4.alloc (.cells #[.slice ad lr.length capu, .map (some mb)] 35) := ⟨_, rfl⟩
    have hb5 : Below w4.heap.size w4 w5 := by rw [hw5]; exact (Below.refl _ _).alloc (Nat.le_refl _) _
    have r5 : w5.cell? ⟨w4.heap.size, 0, none⟩ = some (.slice ad lr.length capu) ∧ w5.cell? ⟨w4.heap.size, 1, none⟩ = some (.map (some mb)) := by rw [hw5]; simp
    have hs5 : w5.heap.size = w4.heap.size + 1 := by rw [hw5]; simp
    have HW5 : Hid (w5 = _) := hw5
    have HR5 : Hid _ := r5
    have HB5 : Hid (Below w4.heap.size w4 w5) := hb5
    have hB5 : Below w0.heap.size w0 w5 := hB4.trans (hb5.mono hB4.size)
    have h35 : Below w3.heap.size w3 w5 := hb4.trans (hb5.mono hb4.size)
    have HB35 : Hid (Below w3.heap.size w3 w5) := h35
    have own5 := own_below HOWN3.out HB35.out (Nat.le_refl _)
    have HRR5 : Hid (RunRes w3.heap.size w5 mb nn D V MR (.slice ad lr.length capu) lr) := HRR.out.below HB5.out
    have hclo := clone_any L _ w5 own5 (by omega)
    have HOWN5 : Hid (w5.ownsRow w2.heap.size 30 7 (.slice al L.length cl) L.length (L.flatMap evC)) := own5
    clear hrunL hMR hlr g1 g2 g3 hw5 r5 own5 hLe
    go_wp2_with fail
    rw [← HW5.out]
    refine hclo.mono ?_
    rintro r w6 ⟨v6, rfl, own6, hb6⟩
    have hvb : ∀ j, v6.ownBlock = some j → w5.heap.size ≤ j := fun j hj => (own6.lt j hj).1
    have gb : ∀ W, w6.grownBy W v6.ownBlock → Below w5.heap.size w5 W := fun W hg => hb6.trans ⟨hg.os, hg.tape, hg.output, by have := hg.size; have := hb6.size; omega, fun j hj => hg.block j (by have := hb6.size; omega) (fun e => by have := hvb j e.symm; omega)⟩
    have hdel := del_any L v6 w6 own6 (by omega) 17 #[.pointer (some ⟨w.heap.size, 0, none⟩)] (fun e => decide (n < e.day)) (enters_of Try.func17 (by kernel_rfl) rfl)
      (fun e W hg => caus1_any e n w.heap.size W (((hB5.trans ((gb W hg).mono hB5.size)).cell (p := ⟨w.heap.size, 0, none⟩) hs0).trans HR0.out))
    have HGB : Hid _ := gb
    clear hclo own6 hvb gb
    go_wp2_with fail
    refine hdel.mono ?_
    rintro r w7 ⟨v7, rfl, own7, hg7⟩
    have hb7 : Below w5.heap.size w5 w7 := HGB.out w7 hg7
    have hmw : ∀ e ∈ L.filter (fun e => !decide (n < e.day)), EvW e := fun e he => HEW.out e (List.mem_filter.1 he).1
    have hml : (L.filter (fun e => !decide (n < e.day))).length ≤ L.length := List.length_filter_le ..
    obtain ⟨m, hm⟩ : ∃ m, m = L.filter (fun e => !decide (n < e.day)) := ⟨_, rfl⟩
    rw [← hm] at own7 hmw hml HCAU
    have hrun := run_any m _ w7 (EvsAt.of_own own7) hmw (by omega)
    obtain ⟨am, cm, hv7⟩ := own_lenN own7
    subst hv7
    clear hdel hm hg7 hmw own7
    go_wp2_with fail
    refine hrun.mono ?_
    rintro r w8 ⟨rv, rfl, hres, hb8⟩
    have hb58 : Below w5.heap.size w5 w8 := hb7.trans (hb8.mono hb7.size)
    obtain ⟨c, hc, hcau⟩ := HCAU.out
    rw [hcau] at hres
    have htl : (lr.take c).length ≤ lr.length := by rw [List.length_take]; omega
    have HTC : Hid (∀ (W : World) (a : Option Addr), LinsC W a lr → LinsC W a (lr.take c)) := fun W a h => h.take c
    obtain ⟨ls, hls⟩ : ∃ ls, ls = lr.take c := ⟨_, rfl⟩
    rw [← hls] at hres htl HTC
    obtain ⟨u2, mb2, nn2, D2, V2, rfl, g1, g2, g3⟩ := hres
    obtain ⟨ad2, capu2, hu2⟩ := own_lenN g3.own
    subst hu2
    obtain ⟨w9, hw9⟩ : ∃ W, W = w8.alloc (.cells #[.slice ad2 ls.length capu2, .map (some mb2)] 35) := ⟨_, rfl⟩
    have hb9 : Below w8.heap.size w8 w9 := by rw [hw9]; exact (Below.refl _ _).alloc (Nat.le_refl _) _
    have r9 : w9.cell? ⟨w8.heap.size, 0, none⟩ = some (.slice ad2 ls.length capu2) := by rw [hw9]; simp
    have hb59 : Below w5.heap.size w5 w9 := hb58.trans (hb9.mono hb58.size)
    have own9 := own_below g3.own hb9 (Nat.le_refl _)
    have HW9 : Hid (w9 = _) := hw9
    clear hrun hcau hls g1 g2 g3 hw9 HCAU hc
    have bd : ∀ j, Below w9.heap.size w9 (w9.drewN j) := fun j => ⟨rfl, rfl, rfl, Nat.le_refl _, fun _ _ => rfl⟩
    have hrr9 := HRR5.out.below hb59
    have q0 : ∀ j, (w9.drewN j).cell? ⟨w8.heap.size, 0, none⟩ = some (.slice ad2 ls.length capu2) := fun j => r9
    have q1 : ∀ j, (w9.drewN j).cell? ⟨w4.heap.size, 0, none⟩ = some (.slice ad lr.length capu) := fun j => (hb59.cell (p := ⟨w4.heap.size, 0, none⟩) (by show w4.heap.size < _; omega)).trans HR5.out.1
    have hlez : ¬ (ls.length : Int) > (lr.length : Int) := by omega
    have hlez2 : (ls.length : Int) ≤ (lr.length : Int) := by omega
    obtain ⟨a2', c2', e2', l2'⟩ := lins_of_own own9
    simp only [Value.slice.injEq] at e2'
    obtain ⟨rfl, _, rfl⟩ := e2'
    have mixed := csP.mixed
    have HB9 : Hid (Below w0.heap.size w0 w9) := hB5.trans (hb59.mono hB5.size)
    rcases own_form hrr9.own with ⟨hv, hn, _⟩ | ⟨g, cap', hv, _, hgl, hcl', hcm'⟩
    · simp only [Value.slice.injEq] at hv
      obtain ⟨rfl, _, rfl⟩ := hv
      have hL0 := HLE.out hn
      have hE1 := fun j => eqLin_c ls ad2 none capu2 0 (w9.drewN j) (l2'.below (bd j)) (fun hp => absurd hp (by omega)) (by omega)
      have hls0 : ls.length = 0 := by omega
      rw [hls0] at q0 hE1 HW9 hlez hlez2
      rw [hn] at q1 hlez hlez2
      rw [hls0, hn]
      go_wp2_with fail
      rw [← HW9.out]
      go_quiet (first | (go_at_call 18; refine Calls.quiet_of (hE1 _)))
      have hBa : Below w0.heap.size w0 (w9.drewN nq) := HB9.out.trans ((bd nq).mono HB9.out.size)
      clear q0 q1 hE1 mixed l2' own9 bd
      go_wp2
      go_ret
      exact ⟨rfl, hb0.trans (hBa.mono hb0.size)⟩
    · simp only [Value.slice.injEq] at hv
      obtain ⟨rfl, _, rfl⟩ := hv
      obtain ⟨a1', c1', e1', l1'⟩ := lins_of_own hrr9.own
      simp only [Value.slice.injEq] at e1'
      obtain ⟨rfl, _, rfl⟩ := e1'
      have hE1 := fun j => eqLin_c ls ad2 (some ⟨g, 0, none⟩) capu2 capu (w9.drewN j) (l2'.below (bd j)) ((HTC.out w9 _ l1').below (bd j)) (by omega)
      have hcz : (ls.length : Int) ≤ (capu : Int) := by omega
      go_wp2_with fail
      rw [← HW9.out]
      go_quiet (first | (go_at_call 18; refine Calls.quiet_of (hE1 _)))
      obtain ⟨wa, hwa⟩ : ∃ W, W = w9.drewN nq := ⟨_, rfl⟩
      have hb9a : Below w9.heap.size w9 wa := by rw [hwa]; exact bd nq
      rw [← hwa]
      have hb5a : Below w5.heap.size w5 wa := hb59.trans (hb9a.mono hb59.size)
      have hBa : Below w0.heap.size w0 wa := hB5.trans (hb5a.mono hB5.size)
      have hdec : decide (lr.length < ls.length) = false := by simp; omega
      clear q0 q1 hE1 mixed l1' l2' own9 hwa bd
      by_cases hL0 : L.length = 0
      · go_wp2
        go_ret
        exact ⟨rfl, hb0.trans (hBa.mono hb0.size)⟩
      · have hLz : ¬ (L.length : Int) = 0 := by omega
        have hpk := pick_any by_ L.length wa (by omega) (by omega)
        have hbd := pk_bd by_ L.length (by omega)
        generalize pk by_ (L.length : Int) = pv at hpk hbd
        obtain ⟨k, rfl⟩ : ∃ k : Nat, pv = (k : Int) := ⟨pv.toNat, by omega⟩
        have hkL : k < L.length := by omega
        go_wp2_with fail
        refine hpk.mono ?_
        rintro r w' ⟨rfl, rfl⟩
        clear hpk hdec
        have ownA := own_below HOWN5.out hb5a (Nat.le_refl _)
        rcases own_form ownA with ⟨_, hn, _⟩ | ⟨gL, cl', hv, _, hgLl, hcLl, hcLm⟩
        · exact absurd hn hL0
        · simp only [Value.slice.injEq] at hv
          obtain ⟨rfl, _, rfl⟩ := hv
          obtain ⟨i0, hi, hz0, hz1, hz2⟩ := info_parts Try.infoEv
          have hcells := ownA.cells (g := gL) rfl
          have hcs : ∀ j u, (L.flatMap evC)[j]? = some u → w'.cell? ⟨gL, j, none⟩ = some u := fun j u hj => by
            have hadd : (⟨gL, 0, none⟩ : Addr).add j = ⟨gL, j, none⟩ := by unfold Addr.add; split <;> simp_all
            have := hcells j u hj
            rw [hadd] at this
            exact this
          have HCS : Hid (∀ j u, (L.flatMap evC)[j]? = some u → w'.cell? ⟨gL, j, none⟩ = some u) := hcs
          have hsplit : L.flatMap evC = (L.take k).flatMap evC ++ (L.drop k).flatMap evC := by rw [← List.flatMap_append, List.take_append_drop]
          have htk : ((L.take k).flatMap evC).length = k * 7 := by rw [flat_len evC 7 evC_len, List.length_take]; omega
          have hcd : ∀ j u, ((L.drop k).flatMap evC)[j]? = some u → w'.cell? ⟨gL, k * 7 + j, none⟩ = some u := fun j u hj => by
            refine hcs (k * 7 + j) u ?_
            rw [hsplit, List.getElem?_append_right (by omega), htk, Nat.add_sub_cancel_left]
            exact hj
          have HCT : Hid (∀ j u, ((L.take k).flatMap evC)[j]? = some u → w'.cell? ⟨gL, j, none⟩ = some u) := fun j u hj => by
            refine hcs j u ?_
            have hjl : j < ((L.take k).flatMap evC).length := by
              rcases Nat.lt_or_ge j ((L.take k).flatMap evC).length with a | a
              · exact a
              · rw [List.getElem?_eq_none a] at hj; cases hj
            rw [hsplit, List.getElem?_append_left hjl]
            exact hj
          have HTK : Hid (((L.take k).flatMap evC).length = k * 7) := htk
          have hld : (L.drop k).length = L.length - k := List.length_drop
          obtain ⟨w10, hw10⟩ : ∃ W, W = w'.drew := ⟨_, rfl⟩
          have hb10 : Below w'.heap.size w' w10 := by rw [hw10]; exact below_drew _
          have hclo2 := clone_part (L.drop k) gL (k * 7) (cl - k) w10 (fun j u hj => by rw [hw10]; exact hcd j u hj) (by omega)
          rw [hld] at hclo2
          have HLD : Hid ((L.drop k).length = L.length - k) := hld
          have hkz : (k : Int) < (L.length : Int) := by omega
          have hkz2 : (k : Int) ≤ (cl : Int) := by omega
          have hkz3 : (k : Int) ≤ (L.length : Int) := by omega
          have hne1 : ¬ cl = k := by omega
          have hne0 : ¬ cl = 0 := by omega
          have HW10 : Hid (w10 = w'.drew) := hw10
          have hgL10 : gL < w10.heap.size := by have := hb10.size; omega
          clear hcells hcs hsplit htk hcd hld ownA hw10
          go_wp2_with fail
          refine wp_region_keepS (SameAt gL) [(true, 0), (true, 1), (true, 2), (true, 4), (true, 5), (true, 6), (false, 3), (false, 7), (true, 8)] (sameAt_refl _) (sameAt_trans _) (by kernel_rfl) (by kernel_rfl) ?_
          rw [← HW10.out]
          have hU := upK_ne gL
          repeat (refine keep_q rfl ?_; go_big_quiet_step (fail); refine wpQuiet_nil ?_)
          refine keep_n rfl ?_
          go_wp2_with fail
          refine hclo2.mono ?_
          rintro r w11 ⟨v11, rfl, own11, hb11⟩
          have hsame : SameAt gL w10 w11 := hb11.block _ hgL10
          have HCT11 : Hid (∀ j u, ((L.take k).flatMap evC)[j]? = some u → w11.cell? ⟨gL, j, none⟩ = some u) := fun j u hj => (hb11.cell (p := ⟨gL, j, none⟩) hgL10).trans (by rw [HW10.out]; exact HCT.out j u hj)
          have HOWN11 : Hid (w11.ownsRow w10.heap.size 30 7 v11 (L.length - k) ((L.drop k).flatMap evC)) := own11
          have hvb : ∀ j, v11.ownBlock = some j → w10.heap.size ≤ j := fun j hj => (own11.lt j hj).1
          have HVB : Hid _ := hvb
          clear hclo2 own11 hvb
          go_wp2_with fail
          refine ⟨rfl, hsame, ?_⟩
          clear hsame
          refine keep_n rfl ?_
          go_wp2_with (first
            | (at_builtin; refine wpList_append_own _ rfl _ _ 22 rfl w10.heap.size 30 i0 evZ 7 64 Try.underlying22 hi hz0 hz1 hz2 rfl (by decide) v11 _ _ rfl HOWN11.out ⟨gL, 0, none⟩ k cl ((L.take k).flatMap evC) rfl HTK.out ?d1 ?d2 ?d3 ?d4 ?d5 ?_)
            | go_in)
          case d1 =>
            intro j u hj
            have hadd : (⟨gL, 0, none⟩ : Addr).add j = ⟨gL, j, none⟩ := by unfold Addr.add; split <;> simp_all
            rw [hadd]
            exact HCT11.out j u hj
          case d2 =>
            intro u hu
            obtain ⟨e, _, he⟩ := List.mem_flatMap.1 hu
            exact evC_one e u he
          case d3 => unfold maxLen; omega
          case d4 => omega
          case d5 => exact hb11.size
          intro v12 w12 own12 hg12 _
          have hb12 : Below w10.heap.size w10 w12 := hb11.trans ⟨hg12.os, hg12.tape, hg12.output, by have := hg12.size; have := hb11.size; omega, fun j hj => hg12.block j (by have := hb11.size; omega) (fun e => by have := HVB.out j e.symm; omega)⟩
          have hsame2 : SameAt gL w11 w12 := hg12.block gL (by have := hb11.size; omega) (fun e => by have := HVB.out gL e.symm; omega)
          have hCl : (L.drop k ++ L.take k).length = L.length := by rw [List.length_append, List.length_drop, List.length_take]; omega
          have ownC : w12.ownsRow w10.heap.size 30 7 v12 (L.drop k ++ L.take k).length ((L.drop k ++ L.take k).flatMap evC) := by
            rw [hCl, List.flatMap_append]
            rw [show L.length - k + k = L.length by omega] at own12
            exact own12
          have HPC : Hid ((L.drop k ++ L.take k).Perm L) := by
            have := List.perm_append_comm (l₁ := L.drop k) (l₂ := L.take k)
            rw [List.take_append_drop] at this
            exact this
          obtain ⟨C, hC⟩ : ∃ C, C = L.drop k ++ L.take k := ⟨_, rfl⟩
          rw [← hC] at hCl ownC HPC
          have hCl2 : C.length ≤ 40 := by omega
          have hC0 : 0 < C.length := by omega
          clear hC own12 hg12 hCl
          go_wp2_with fail
          refine ⟨rfl, hsame2, ?_⟩
          clear hsame2
          refine keep_q rfl ?_
          go_big_quiet_step (fail)
          refine wpQuiet_nil ?_
          refine keep_nil ?_
          rcases own_form ownC with ⟨_, hn, _⟩ | ⟨gt, ct, hv, hgtB, hgtl, hctl, hctm⟩
          · omega
          · subst hv
            have HOWNC : Hid (w12.ownsRow w10.heap.size 30 7 (.slice (some ⟨gt, 0, none⟩) C.length ct) C.length (C.flatMap evC)) := ownC
            have hpk2 := pick_any by_ ((C.length : Int) + 1) w12 (by omega) (by omega)
            have hbd2 := pk_bd by_ ((C.length : Int) + 1) (by omega)
            generalize pk by_ ((C.length : Int) + 1) = pv2 at hpk2 hbd2
            obtain ⟨q, rfl⟩ : ∃ q : Nat, pv2 = (q : Int) := ⟨pv2.toNat, by omega⟩
            have hqC : q ≤ C.length := by omega
            have hqz : (q : Int) ≤ (C.length : Int) := by omega
            have hqz2 : (q : Int) ≤ (ct : Int) := by omega
            have hct0 : ¬ ct = 0 := by omega
            clear ownC hbd2
            go_wp2_with fail
            refine hpk2.mono ?_
            rintro r w'' ⟨rfl, rfl⟩
            clear hpk2
            have hrev := rev_any (cap' := ct) HOWNC.out hgtl hqC (by omega)
            go_wp2_with fail
            refine hrev.mono ?_
            rintro r w13 ⟨rfl, c', hperm, own13, hg13⟩
            have hb13 : Below w10.heap.size w10 w13 := hb12.trans ⟨hg13.os, hg13.tape, hg13.output, by have := hg13.size; have := hb12.size; omega, fun j hj => hg13.block j (by have := hb12.size; omega) (fun e => by cases e; omega)⟩
            have hpl := hperm.length_eq
            have hpL : c'.Perm L := hperm.trans HPC.out
            have hres0 := run_any c' (.slice (some ⟨gt, 0, none⟩) C.length ct) w13 (EvsAt.of_own (B := w10.heap.size) (by rw [hpl]; exact own13)) (fun e he => HEW.out e (hpL.mem_iff.1 he)) (by omega)
            rw [HSAME.out c' hpL, ← HMR.out.1, ← HMR.out.2] at hres0
            clear hrev own13 hg13 hpl hperm hpL
            go_wp2_with fail
            refine hres0.mono ?_
            rintro r w14 ⟨rv, rfl, hres, hb14⟩
            obtain ⟨u3, mb3, nn3, D3, V3, rfl, g1, g2, g3⟩ := hres
            obtain ⟨ad3, capu3, hu3⟩ := own_lenN g3.own
            subst hu3
            obtain ⟨w15, hw15⟩ : ∃ W, W = w14.alloc (.cells #[.slice ad3 lr.length capu3, .map (some mb3)] 35) := ⟨_, rfl⟩
            have hb15 : Below w14.heap.size w14 w15 := by rw [hw15]; exact (Below.refl _ _).alloc (Nat.le_refl _) _
            have r15 : w15.cell? ⟨w14.heap.size, 0, none⟩ = some (.slice ad3 lr.length capu3) ∧ w15.cell? ⟨w14.heap.size, 1, none⟩ = some (.map (some mb3)) := by rw [hw15]; simp
            have hs15 : w14.heap.size < w15.heap.size := by rw [hw15]; simp
            have hb10_15 : Below w10.heap.size w10 w15 := (hb13.trans (hb14.mono hb13.size)).trans (hb15.mono (by have := hb13.size; have := hb14.size; omega))
            have hba_15 : Below w'.heap.size w' w15 := hb10.trans (hb10_15.mono hb10.size)
            have hb9_15 : Below w9.heap.size w9 w15 := hb9a.trans (hba_15.mono hb9a.size)
            have hb5_15 : Below w5.heap.size w5 w15 := hb59.trans (hb9_15.mono hb59.size)
            have hry := g3.below hb15
            have hrr := HRR5.out.below hb5_15
            have HW15 : Hid (w15 = _) := hw15
            have HBx : Hid (Below w0.heap.size w0 w15) := hB5.trans (hb5_15.mono hB5.size)
            have c40 : w15.cell? ⟨w4.heap.size, 0, none⟩ = some (.slice (some ⟨g, 0, none⟩) lr.length capu) := (hb5_15.cell (p := ⟨w4.heap.size, 0, none⟩) (by show w4.heap.size < _; omega)).trans HR5.out.1
            have c41 : w15.cell? ⟨w4.heap.size, 1, none⟩ = some (.map (some mb)) := (hb5_15.cell (p := ⟨w4.heap.size, 1, none⟩) (by show w4.heap.size < _; omega)).trans HR5.out.2
            have hE3 := eqLin_any lr _ _ w15 hry.own hrr.own (by omega)
            have hz45 : w4.heap.size < w14.heap.size := by have := hb5_15.size; have := hb59.size; have := hb9a.size; have := hb10.size; have := hb13.size; have := hb14.size; omega
            have hb5_14 : Below w5.heap.size w5 w14 := (((hb59.trans (hb9a.mono hb59.size)).trans (hb10.mono (by have := hb59.size; have := hb9a.size; omega))).trans (hb13.mono (by have := hb59.size; have := hb9a.size; have := hb10.size; omega))).trans (hb14.mono (by have := hb59.size; have := hb9a.size; have := hb10.size; have := hb13.size; omega))
            have c40' := fun o : Obj => ((hb5_14.alloc hb5_14.size o).cell (p := ⟨w4.heap.size, 0, none⟩) (by show w4.heap.size < _; omega)).trans HR5.out.1
            clear hres0 g1 g2 g3 hw15
            go_wp2_with fail
            rw [← HW15.out]
            refine hE3.mono ?_
            rintro r w16 ⟨rfl, mm, hw16⟩
            have hb16 : Below w15.heap.size w15 w16 := by rw [hw16]; exact ⟨rfl, rfl, rfl, Nat.le_refl _, fun _ _ => rfl⟩
            have d41 : w16.cell? ⟨w4.heap.size, 1, none⟩ = some (.map (some mb)) := (hb16.cell (p := ⟨w4.heap.size, 1, none⟩) (by show w4.heap.size < _; omega)).trans c41
            have dy1 : w16.cell? ⟨w14.heap.size, 1, none⟩ = some (.map (some mb3)) := (hb16.cell (p := ⟨w14.heap.size, 1, none⟩) hs15).trans r15.2
            have hry6 := hry.below hb16
            have hrr6 := hrr.below hb16
            have hl1 := fun ty => hry6.map.len Try.underlying33 ty
            have hl2 := fun ty => hrr6.map.len Try.underlying33 ty
            rw [res_size hry6 hrr6] at hl1
            have hB16 : Below w0.heap.size w0 w16 := HBx.out.trans (hb16.mono HBx.out.size)
            have HRY : Hid (RunRes w13.heap.size w16 mb3 nn3 D3 V3 MR (.slice ad3 lr.length capu3) lr) := hry6
            have HRR6 : Hid (RunRes w3.heap.size w16 mb nn D V MR (.slice (some ⟨g, 0, none⟩) lr.length capu) lr) := hrr6
            have hs16 : w14.heap.size < w16.heap.size := by have := hb16.size; omega
            clear hE3 hw16 hry hrr hry6 hrr6 c40 c41 c40' r15
            go_wp2_with (first
              | (at_range; refine wpList_range_own _ rfl _ 33 rfl 9 41 law_strT Try.underlying33 heldE mb nn D rfl HRR6.out.map ?_)
              | go_in)
            intro wR hrg0 hg0 hsR
            have HG0 : Hid (wR.ranges Try.prog 9 heldE mb w16.heap.size nn D (Maps.has D) (Maps.size D)) := hrg0
            have HBR : Hid (Below w16.heap.size w16 wR) := ⟨hg0.os, hg0.tape, hg0.output, hg0.size, fun j hj => hg0.block j hj (by simp)⟩
            clear hrg0 hg0 hl1 hl2
            go_wp2
            go_loopw [] (fun wr => ∃ (left : Lit → Bool) (cnt : Nat), Hid (wr.ranges Try.prog 9 heldE mb w16.heap.size nn D left cnt) ∧ Hid (Below w16.heap.size w16 wr)) (fun wr => wr.rangeLeft mb w16.heap.size)
            case atStart => exact ⟨_, _, HG0, HBR⟩
            case round =>
              obtain ⟨left, cnt, HR, HBr⟩ := hrel
              go_wp2_with (at_next; refine wpList_next_ranges _ rfl _ rfl 9 law_strT heldE Value.string (fun c : Value => c) (fun key kl hkey => by obtain ⟨s, hs⟩ := Maps.keyOf_string_inv Try.underlying9 hkey; exact ⟨s, hs⟩) (fun v y _ => ⟨v, rfl⟩) mb w16.heap.size nn D left cnt rfl HR.out ?_ ?_)
              · intro hc0 hl0
                clear hc0 hl0
                go_wp2
                go_ret
                exact ⟨rfl, hb0.trans ((hB16.trans (HBr.out.mono hB16.size)).mono hb0.size)⟩
              · intro x c kl yd yp w2 cnt2 hkey hlk hcv hat hrg2 hlt2 hgr2 hsz2 hen
                obtain ⟨rfl, hxs⟩ := key_str_inv hkey
                have hys : (MR x).ys ≠ [] := fun e => by
                  have h1 := HRR6.out.no x e
                  rw [has_true_of_atKey hat] at h1
                  cases h1
                have hcx : c = V x := by
                  have h1 := hat (.held stkZ)
                  rw [HRR6.out.yes x hys, heldE_inv hcv] at h1
                  exact (held_inj h1).symm
                subst hcx
                have hB2 : Below w16.heap.size w16 w2 := HBr.out.grown hgr2 (by have := HR.out.lt; omega) (fun j hj => by cases hj; omega)
                have HR2 : Hid (w2.ranges Try.prog 9 heldE mb w16.heap.size nn D (fun z => left z && !z.sameKey (keyB x)) cnt2) := hrg2
                have HLV : Hid (wr.rangeLeft mb w16.heap.size = cnt) := HR.out.left_eq
                have ey1 : w2.cell? ⟨w14.heap.size, 1, none⟩ = some (.map (some mb3)) := (hB2.cell (p := ⟨w14.heap.size, 1, none⟩) hs16).trans dy1
                have hlk2 := lookV (HRY.out.below hB2) x hxs
                have hE4 := eqLay_any (MR x).ys _ _ w2 (lookL (HRY.out.below hB2) x) ((HRR6.out.below hB2).lay x) (by have := (HOKL.out x).len; omega)
                generalize (if (MR x).ys.isEmpty = true then Value.slice none 0 0 else V3 x) = lv3 at hlk2 hE4
                clear hrg2 hat hcv hlk hkey hgr2 hys
                go_wp2_with fail
                refine hE4.mono ?_
                rintro r w17 ⟨rfl, mq, hw17⟩
                have HB17 : Hid (Below w16.heap.size w16 w17) := by rw [hw17]; exact hB2.trans ⟨rfl, rfl, rfl, Nat.le_refl _, fun _ _ => rfl⟩
                have HR17 : Hid (w17.ranges Try.prog 9 heldE mb w16.heap.size nn D (fun z => left z && !z.sameKey (keyB x)) cnt2) := by
                  rw [hw17]
                  exact HR2.out.kept (row := none) ⟨rfl, rfl, rfl, Nat.le_refl _, fun _ _ _ => rfl⟩ (by simp) (by simp)
                clear hE4 hlk2 hw17
                go_wp2
                go_roundw
                case rel => exact ⟨_, cnt2, HR17, HB17⟩
                case measure =>
                  rw [HLV.out, HR17.out.left_eq]
                  exact hlt2
  · have hB' : heldB l = false := by simpa using hB
    rw [hB'] at hheld
    go_enter Try.func4, Try.ntmps4
    go_wp2_with fail
    rw [← HW0.out]
    refine hheld.mono ?_
    rintro r w1 ⟨rfl, hb1⟩
    go_wp2
    go_ret
    exact ⟨rfl, hb0.trans (hb1.mono hb0.size)⟩
end Go.Proofs.Ytgjjfeimgbibjaa.costCausal
