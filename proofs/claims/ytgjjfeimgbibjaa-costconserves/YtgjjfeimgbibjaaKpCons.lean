/- The walk of tallymankeep.CostConserves. -/
import Derived.Test.YtgjjfeimgbibjaaKpConsM
namespace Go.Proofs.Ytgjjfeimgbibjaa.costConserves
open Go.Proofs.Ytgjjfeimgbibjaa
open Go.RowKit Go.Shelf Go.Maps
def boxN (p : Value) (w : World) : Nat := match p with
  | .pointer (some a) => ((w.cell? a).map fun v => (intOf v).toNat).getD 0
  | _ => 0
theorem boxN_eq {a : Addr} {w : World} {k : Nat} (h : w.cell? a = some (.int .i64 k)) : boxN (.pointer (some a)) w = k := by
  simp [boxN, h, intOf]
set_option maxHeartbeats 1000000 in
theorem cons1_any (e : Ev) (x : ByteArray) (ab ib gs n cs k : Nat) (W : World) (h0 : W.cell? ⟨ab, 0, none⟩ = some (.slice (some ⟨gs, 0, none⟩) n cs)) (h1 : W.cell? ⟨ib, 0, none⟩ = some (.int .i64 k)) (h2 : W.cell? ⟨gs, k, none⟩ = some (.string x)) (hk : k < n) :
    Calls Try.prog 13 (#[evV e] ++ #[.pointer (some ⟨ab, 0, none⟩), .pointer (some ⟨ib, 0, none⟩)]) W fun r w' => r = .returned (.bool (!decide (e.item = x))) ∧ Below W.heap.size W w' := by
  obtain ⟨id, item, kind, qty, price, ofI, day⟩ := e
  unfold evV
  simp only
  have l0 := World.block_lt_of_cell? _ _ h0
  have l1 := World.block_lt_of_cell? _ _ h1
  have l2 := World.block_lt_of_cell? _ _ h2
  have b := fun o : Obj => (Below.refl W.heap.size W).alloc (Nat.le_refl _) o
  have c0 := fun o : Obj => ((b o).cell (p := ⟨ab, 0, none⟩) l0).trans h0
  have c1 := fun o : Obj => ((b o).cell (p := ⟨ib, 0, none⟩) l1).trans h1
  have c2 := fun o : Obj => ((b o).cell (p := ⟨gs, k, none⟩) l2).trans h2
  have d1 : ∀ (o : Obj) (m : Nat), ((W.alloc o).drewN m).cell? ⟨ab, 0, none⟩ = some (.slice (some ⟨gs, 0, none⟩) n cs) := fun o m => c0 o
  have d2 : ∀ (o : Obj) (m : Nat), ((W.alloc o).drewN m).cell? ⟨ib, 0, none⟩ = some (.int .i64 k) := fun o m => c1 o
  have d3 : ∀ (o : Obj) (m : Nat), ((W.alloc o).drewN m).cell? ⟨gs, k, none⟩ = some (.string x) := fun o m => c2 o
  have HB : Hid _ := b
  have mixed := csP.mixed
  have hkz : (k : Int) < (n : Int) := by omega
  clear b h0 h1 h2
  by_cases hd : item = x
  · subst hd
    go_enter Try.func13, Try.ntmps13
    go_wp2_with fail
    go_quiet (fail)
    go_wp2
    go_ret
    exact ⟨by simp, (HB.out _).trans ⟨rfl, rfl, rfl, Nat.le_refl _, fun _ _ => rfl⟩⟩
  · have hd2 := txt_ne hd
    go_enter Try.func13, Try.ntmps13
    go_wp2_with fail
    go_quiet (fail)
    go_wp2
    go_ret
    exact ⟨by simp [hd], (HB.out _).trans ⟨rfl, rfl, rfl, Nat.le_refl _, fun _ _ => rfl⟩⟩
theorem lookV {B : Nat} {W : World} {mb n : Nat} {D : DataW Value} {V : ByteArray → Value} {M : Stks} {u : Value} {ls : List Lin} (h : RunRes B W mb n D V M u ls) (x : ByteArray) (hx : x.size ≤ maxLen) :
    (Instr.lookup 33 (.map (some mb)) (.string x) false).run Try.prog W = .ok (if (M x).ys.isEmpty then .slice none 0 0 else V x) W := by
  obtain ⟨v, ps, h1, h2⟩ := h.map.lookup law_strT Try.underlying33 (zero_lays W) (zd := .held (.slice none 0 0)) (zp := []) rfl (key_str x hx)
  have h3 := heldE_inv h2
  by_cases e : (M x).ys = []
  · rw [atKey_of_not_has (h.no x e)] at h3
    rw [h1, ← held_inj h3, e]
    rfl
  · rw [h.yes x e] at h3
    rw [h1, ← held_inj h3, if_neg (by simpa using e)]
theorem lookL {B : Nat} {W : World} {mb n : Nat} {D : DataW Value} {V : ByteArray → Value} {M : Stks} {u : Value} {ls : List Lin} (h : RunRes B W mb n D V M u ls) (x : ByteArray) : LayAt W (if (M x).ys.isEmpty then .slice none 0 0 else V x) (M x).ys := by
  by_cases e : (M x).ys = []
  · rw [if_pos (by simpa using e), e]; exact LayAt.nil W
  · rw [if_neg (by simpa using e)]; exact h.lay x
set_option maxRecDepth 20000 in
set_option maxHeartbeats 8000000 in
theorem walk (ao : Option Addr) (cap : Nat) (l : List Ev) (w : World) (hw : ∀ e ∈ l, EvW e) (h : EvsC w ao l) (hl : l.length ≤ maxLen) :
    Calls Try.prog 3 #[.slice ao l.length cap] w fun r w' => r = .returned (.bool true) ∧ Below w.heap.size w w' := by
  have hheld := held_any l ao cap w h hl
  have HC : Hid (EvsC w ao l) := h
  have HW : Hid (∀ e ∈ l, EvW e) := hw
  clear h hw
  by_cases hB : heldB l = true
  · rw [hB] at hheld
    have h40 : l.length ≤ 40 := by
      unfold heldB at hB
      simp only [Bool.and_eq_true, decide_eq_true_eq] at hB
      exact hB.1
    clear hB
    go_enter Try.func3, Try.ntmps3
    go_wp2_with fail
    refine hheld.mono ?_
    rintro r w1 ⟨rfl, hb1⟩
    go_wp2_with fail
    refine (told_any w1).mono ?_
    rintro r w2 ⟨rfl, hb2⟩
    have hB2 : Below w.heap.size w w2 := hb1.trans (hb2.mono hb1.size)
    have hnum := numbered_any l ao cap w2 (HC.out.below hB2) HW.out (by omega)
    go_wp2_with fail
    refine hnum.mono ?_
    rintro r w3 ⟨lv, rfl, hown3, hb3⟩
    have hB3 : Below w.heap.size w w3 := hB2.trans (hb3.mono hB2.size)
    have hnl := numb_len l
    have HRT : Hid (∀ y ∈ numb l, Rt y) := numb_rt
    have HEW : Hid (∀ y ∈ numb l, EvW y) := numb_w HW.out (by omega)
    have HND : Hid (((numb l).map (·.id)).Nodup) := numb_nodup l
    obtain ⟨L, hL⟩ : ∃ L, L = numb l := ⟨_, rfl⟩
    rw [← hL] at hown3 hnl HRT HEW HND
    clear hL hheld hnum hb1 hb2 hb3
    obtain ⟨al, cl, hlv, hcl⟩ := (EvsAt.of_own hown3).toC
    subst hlv
    have hitm := items_any L al cl w3 hcl (by omega)
    have HOWN3 : Hid (w3.ownsRow w2.heap.size 30 7 (.slice al L.length cl) L.length (L.flatMap evC)) := hown3
    clear hown3 hcl
    go_wp2_with fail
    refine hitm.mono ?_
    rintro r w4 ⟨sv, rfl, hown4, hb4⟩
    have hsl := its_len L
    have HSM : Hid (∀ x ∈ itsL L, ∃ e ∈ L, e.item = x) := fun x hx => its_mem hx
    obtain ⟨S, hS⟩ : ∃ S, S = itsL L := ⟨_, rfl⟩
    rw [← hS] at hown4 hsl HSM
    have hB4 : Below w.heap.size w w4 := hB3.trans (hb4.mono hB3.size)
    obtain ⟨asv, cs, hsv⟩ := own_lenN hown4
    subst hsv
    have HOWN4 : Hid (w4.ownsRow w3.heap.size 9 1 (.slice asv S.length cs) S.length (S.flatMap strC)) := hown4
    obtain ⟨w5, hw5⟩ : ∃ W, W = w4.alloc (.cells #[.slice asv S.length cs] 26) := ⟨_, rfl⟩
    have hb5 : Below w4.heap.size w4 w5 := by rw [hw5]; exact (Below.refl _ _).alloc (Nat.le_refl _) _
    have r5 : w5.cell? ⟨w4.heap.size, 0, none⟩ = some (.slice asv S.length cs) := by rw [hw5]; simp
    have hs5 : w5.heap.size = w4.heap.size + 1 := by rw [hw5]; simp
    have HR5 : Hid (w5.cell? ⟨w4.heap.size, 0, none⟩ = some (.slice asv S.length cs)) := r5
    have HB5 : Hid (Below w4.heap.size w4 w5) := hb5
    have HL5 : Hid (w5.ownsRow w2.heap.size 30 7 (.slice al L.length cl) L.length (L.flatMap evC)) := own_below HOWN3.out (hb4.trans (hb5.mono hb4.size)) (Nat.le_refl _)
    have hB5 : Below w.heap.size w w5 := hB4.trans (hb5.mono hB4.size)
    have HW5 : Hid (w5 = _) := hw5
    clear hS hitm hown4 hw5 r5 hb5
    go_wp2
    rw [← HW5.out]
    go_loopw [4] (fun p wr => ∃ (k ib : Nat), k ≤ S.length ∧ p = .pointer (some ⟨ib, 0, none⟩) ∧ wr.cell? ⟨ib, 0, none⟩ = some (.int .i64 k) ∧ wr.frozen? ⟨ib, 0, none⟩ = false ∧ w5.heap.size ≤ ib ∧ Hid (Below w5.heap.size w5 wr)) (fun p wr => S.length - boxN p wr)
    case atStart => exact ⟨0, w5.heap.size, Nat.zero_le _, by rw [hs5], by rw [hs5]; simp [← hs5], by rw [hs5]; simp [← hs5], Nat.le_refl _, (Below.refl _ _).alloc (Nat.le_refl _) _⟩
    case round =>
      obtain ⟨k, ib, hk, rfl, hci, hfi, hib, HBR⟩ := hrel
      obtain ⟨wo, hwo⟩ : ∃ X, X = wr := ⟨_, rfl⟩
      subst hwo
      have hbz : boxN (.pointer (some ⟨ib, 0, none⟩)) wo = k := boxN_eq hci
      have HBZ : Hid (boxN (.pointer (some ⟨ib, 0, none⟩)) wo = k) := hbz
      clear hbz
      have hrz := HBR.out.size
      have hibl : ib < wo.heap.size := World.block_lt_of_cell? _ _ hci
      have ca : ∀ W, Below wo.heap.size wo W → W.cell? ⟨w4.heap.size, 0, none⟩ = some (.slice asv S.length cs) := fun W hb => (hb.cell (p := ⟨w4.heap.size, 0, none⟩) (by show w4.heap.size < _; omega)).trans ((HBR.out.cell (p := ⟨w4.heap.size, 0, none⟩) (by show w4.heap.size < _; omega)).trans HR5.out)
      have ca0 := ca wo (Below.refl _ _)
      by_cases hlt : k < S.length
      · obtain ⟨x, hx⟩ : ∃ x, x = S[k] := ⟨_, rfl⟩
        rcases str_form HOWN4.out with ⟨a1, a2⟩ | ⟨gs, cs', e1, hgs, hcs⟩
        · rw [a2] at hlt; exact absurd hlt (Nat.not_lt_zero _)
        · simp only [Value.slice.injEq] at e1
          obtain ⟨rfl, _, rfl⟩ := e1
          have cx : ∀ W, Below wo.heap.size wo W → W.cell? ⟨gs, k, none⟩ = some (.string x) := fun W hb => (hb.cell (p := ⟨gs, k, none⟩) (by show gs < _; omega)).trans ((HBR.out.cell (p := ⟨gs, k, none⟩) (by show gs < _; omega)).trans ((HB5.out.cell (p := ⟨gs, k, none⟩) hgs).trans (by rw [hcs k hlt, hx])))
          have ci : ∀ W, Below wo.heap.size wo W → W.cell? ⟨ib, 0, none⟩ = some (.int .i64 k) := fun W hb => (hb.cell (p := ⟨ib, 0, none⟩) hibl).trans hci
          have HXM : Hid (∃ e ∈ L, e.item = x) := HSM.out x (by rw [hx]; exact List.getElem_mem hlt)
          have hxs : x.size ≤ 10 := by
            obtain ⟨e, he, hx⟩ := HXM.out
            rw [← hx]; exact rt_size (HRT.out e he)
          have HCA : Hid _ := ca
          have HCX : Hid _ := cx
          have HCI : Hid _ := ci
          have ownr : wo.ownsRow w2.heap.size 30 7 (.slice al L.length cl) L.length (L.flatMap evC) := own_below HL5.out HBR.out (Nat.le_refl _)
          have hclo := clone_any L _ wo ownr (by omega)
          clear hcs hx ca cx ci ownr
          go_wp2_with fail
          refine hclo.mono ?_
          rintro r w6 ⟨v6, rfl, own6, hb6⟩
          have hvb : ∀ j, v6.ownBlock = some j → wo.heap.size ≤ j := fun j hj => (own6.lt j hj).1
          have gb : ∀ W, w6.grownBy W v6.ownBlock → Below wo.heap.size wo W := fun W hg => hb6.trans ⟨hg.os, hg.tape, hg.output, by have := hg.size; have := hb6.size; omega, fun j hj => hg.block j (by have := hb6.size; omega) (fun e => by have := hvb j e.symm; omega)⟩
          have hdel := del_any L v6 w6 own6 (by omega) 13 #[.pointer (some ⟨w4.heap.size, 0, none⟩), .pointer (some ⟨ib, 0, none⟩)] (fun e => !decide (e.item = x)) (enters_of Try.func13 (by kernel_rfl) rfl)
            (fun e W hg => cons1_any e x w4.heap.size ib gs S.length cs k W (HCA.out W (gb W hg)) (HCI.out W (gb W hg)) (HCX.out W (gb W hg)) hlt)
          have HGB : Hid _ := gb
          clear hclo own6 hvb gb
          go_wp2_with fail
          refine hdel.mono ?_
          rintro r w7 ⟨v7, rfl, own7, hg7⟩
          have hb7 : Below wo.heap.size wo w7 := HGB.out w7 hg7
          have hmm : ∀ e ∈ L.filter (fun e => !!decide (e.item = x)), Rt e ∧ e.item = x := fun e he => by
            rw [List.mem_filter] at he
            exact ⟨HRT.out e he.1, by simpa using he.2⟩
          have hmw : ∀ e ∈ L.filter (fun e => !!decide (e.item = x)), EvW e := fun e he => HEW.out e (List.mem_filter.1 he).1
          have hml : (L.filter (fun e => !!decide (e.item = x))).length ≤ L.length := List.length_filter_le ..
          have hmn : ((L.filter (fun e => !!decide (e.item = x))).map (·.id)).Nodup := HND.out.sublist (List.filter_sublist.map _)
          obtain ⟨m, hm⟩ : ∃ m, m = L.filter (fun e => !!decide (e.item = x)) := ⟨_, rfl⟩
          rw [← hm] at own7 hmm hmw hml hmn
          have CON := conserves hmm hmn
          have HCON : Hid (Conserves x m) := CON
          obtain ⟨am, cm, hv7, hcm⟩ := (EvsAt.of_own own7).toC
          subst hv7
          have hrun := run_any m _ w7 (EvsAt.of_own own7) hmw (by omega)
          have HCM : Hid (EvsC w7 am m) := hcm
          clear hdel hm hg7 hmm hmw hmn own7 hcm
          go_wp2_with fail
          refine hrun.mono ?_
          rintro r w8 ⟨rv, rfl, hres, hb8⟩
          obtain ⟨M, hM⟩ : ∃ M, M = goS stk00 (ordd m) := ⟨_, rfl⟩
          obtain ⟨ls, hls⟩ : ∃ ls, ls = goL stk00 (ordd m) := ⟨_, rfl⟩
          obtain ⟨cn, cl', cok, cpos, csm, cla⟩ := CON
          rw [← hM, ← hls] at hres
          rw [← hM] at cn cok cla
          simp only [← hls] at cn cl' cpos csm cla
          have csm' := csm (by omega)
          obtain ⟨u, mb, nn, D, V, rfl, g1, g2, g3⟩ := hres
          obtain ⟨ad, capu, hu⟩ := own_lenN g3.own
          subst hu
          have HRR : Hid (RunRes w7.heap.size w8 mb nn D V M (.slice ad ls.length capu) ls) := g3
          have HRES : Hid (ResAt w7.heap.size w8 (.agg #[.slice ad ls.length capu, .map (some mb)]) M ls) := ⟨_, mb, nn, D, V, rfl, g1, g2, g3⟩
          obtain ⟨w9, hw9⟩ : ∃ W, W = w8.alloc (.cells #[.slice ad ls.length capu, .map (some mb)] 35) := ⟨_, rfl⟩
          have hb9 : Below w8.heap.size w8 w9 := by rw [hw9]; exact (Below.refl _ _).alloc (Nat.le_refl _) _
          have r9 : w9.cell? ⟨w8.heap.size, 0, none⟩ = some (.slice ad ls.length capu) ∧ w9.cell? ⟨w8.heap.size, 1, none⟩ = some (.map (some mb)) := by rw [hw9]; simp
          have hs9 : w8.heap.size < w9.heap.size := by rw [hw9]; simp
          have hsum := sums_any m ls am cm (.slice ad ls.length capu) (.map (some mb)) w9 ((HCM.out.below hb8).below hb9) (own_below g3.own hb9 (Nat.le_refl _)) (by omega) (by omega) (fun y hy => ⟨(cpos y hy).1, csm' y hy⟩) mb rfl
          have HW9 : Hid (w9 = _) := hw9
          have HR9 : Hid _ := r9
          have HB9 : Hid (Below w8.heap.size w8 w9) := hb9
          have HN : Hid (netF (smF m ls) = sumV (M x).ys ∧ ls.length = m.length ∧ StkOK m.length (M x)) := ⟨cn, cl', cok⟩
          have HPOS : Hid (∀ y ∈ ls, 0 ≤ y.val ∧ 0 ≤ y.short ∧ 0 ≤ y.late) := cpos
          have HLAST : Hid (∀ (k : Nat) (hk : k < ls.length), k + 1 = ls.length → 0 < ls[k].short → (M x).ys = []) := cla
          have HFB : Hid (FourB ls.length (smF m ls)) := by
            have := smF_b (es := m) (ls := ls) (fun y hy => ⟨(cpos y hy).1, csm' y hy⟩) ls.length (Nat.le_refl _)
            rw [List.take_length] at this
            exact this
          have hb89 : Below wo.heap.size wo w9 := (hb7.trans (hb8.mono hb7.size)).trans (hb9.mono (by have := hb7.size; have := hb8.size; omega))
          clear hrun hM hls cn cl' cok cpos csm csm' cla g1 g2 g3 hw9 r9 HCON
          go_wp2_with fail
          rw [← HW9.out]
          refine hsum.mono ?_
          rintro r w10 ⟨rfl, hb10⟩
          have hb10r : Below wo.heap.size wo w10 := hb89.trans (hb10.mono hb89.size)
          clear hsum
          obtain ⟨F, hF⟩ : ∃ F, F = smF m ls := ⟨_, rfl⟩
          rw [← hF] at HN HFB
          rw [← hF]
          clear hF
          obtain ⟨F1, F2, F3, F4⟩ := F
          go_wp2_with fail
          refine wp_region_mix [(true, 0), (true, 1), (true, 2), (true, 3), (true, 4), (false, 5), (true, 6), (true, 7), (true, 8), (true, 9), (true, 10)] (by kernel_rfl) (by kernel_rfl) ?_
          obtain ⟨w11, hw11⟩ : ∃ W, W = w10.drew := ⟨_, rfl⟩
          rw [← hw11]
          have hb11 : Below w10.heap.size w10 w11 := by rw [hw11]; exact below_drew _
          have hb11r : Below wo.heap.size wo w11 := hb10r.trans (hb11.mono hb10r.size)
          have hb11n : Below w9.heap.size w9 w11 := hb10.trans (hb11.mono hb10.size)
          have hU := up_ne
          have f0 := fun n : Up w11 => ((hb11n.trans (n.h.mono hb11n.size)).cell (p := ⟨w8.heap.size, 0, none⟩) hs9).trans HR9.out.1
          have f1 := fun n : Up w11 => ((hb11n.trans (n.h.mono hb11n.size)).cell (p := ⟨w8.heap.size, 1, none⟩) hs9).trans HR9.out.2
          have f2 := fun n : Up w11 => HCA.out n.v (hb11r.trans (n.h.mono hb11r.size))
          have f3 := fun n : Up w11 => HCI.out n.v (hb11r.trans (n.h.mono hb11r.size))
          have f4 := fun n : Up w11 => HCX.out n.v (hb11r.trans (n.h.mono hb11r.size))
          have hS := Sum_any ((HRES.out.below (show Below w8.heap.size w8 w9 from HB9.out)).below hb11n) x (by unfold maxLen; omega) HN.out.2.2 (by omega)
          have hkz : (k : Int) < (S.length : Int) := by omega
          clear hw11
          repeat (refine mix_q rfl ?_; go_big_quiet_step (fail); refine wpQuiet_nil ?_)
          refine mix_n rfl ?_
          clear f0 f1 f2 f3 f4
          go_wp2_with fail
          refine hS.mono ?_
          rintro r w12 ⟨rfl, hb12⟩
          have hb12r : Below wo.heap.size wo w12 := hb11r.trans (hb12.mono hb11r.size)
          have hb12n : Below w9.heap.size w9 w12 := hb11n.trans (hb12.mono hb11n.size)
          clear hS
          go_wp2_with fail
          refine ⟨rfl, hb12, ?_⟩
          have hU := up_ne
          repeat (refine mix_q rfl ?_; go_big_quiet_step (fail); refine wpQuiet_nil ?_)
          refine mix_nil ?_
          have hnet : F1 + F4 - F2 - F3 = sumV (M x).ys := HN.out.1
          have hfb := HFB.out
          unfold FourB at hfb
          simp only at hfb
          have HYS : Hid (StkOK m.length (M x)) := HN.out.2.2
          have hll := HN.out.2.1
          have hlen : (ls.length : Int) = (m.length : Int) := by rw [hll]
          have c0 := (hb12n.cell (p := ⟨w8.heap.size, 0, none⟩) hs9).trans HR9.out.1
          have c1 := (hb12n.cell (p := ⟨w8.heap.size, 1, none⟩) hs9).trans HR9.out.2
          obtain ⟨Y, hY⟩ : ∃ Y, Y = sumV (M x).ys := ⟨_, rfl⟩
          rw [← hY] at hnet
          rw [← hY]
          clear hY
          have hml50 : m.length ≤ 40 := by omega
          have HHL : Hid (ls.length = m.length) := hll
          clear hll
          go_wp2_with fail
          clear hnet hlen
          have bd : ∀ j, Below w12.heap.size w12 (w12.drewN j) := fun j => ⟨rfl, rfl, rfl, Nat.le_refl _, fun _ _ => rfl⟩
          have q0 : ∀ j, (w12.drewN j).cell? ⟨w8.heap.size, 1, none⟩ = some (.map (some mb)) := fun j => c1
          have q1 : ∀ j, (w12.drewN j).cell? ⟨w4.heap.size, 0, none⟩ = some (.slice (some ⟨gs, 0, none⟩) S.length cs) := fun j => HCA.out w12 hb12r
          have q2 : ∀ j, (w12.drewN j).cell? ⟨ib, 0, none⟩ = some (.int .i64 k) := fun j => HCI.out w12 hb12r
          have q3 : ∀ j, (w12.drewN j).cell? ⟨gs, k, none⟩ = some (.string x) := fun j => HCX.out w12 hb12r
          have hrr : RunRes w7.heap.size w12 mb nn D V M (.slice ad ls.length capu) ls := (HRR.out.below HB9.out).below hb12n
          have hlk := fun j => lookV (hrr.below (bd j)) x (by unfold maxLen; omega)
          have hLay := lookL hrr x
          generalize (if (M x).ys.isEmpty = true then Value.slice none 0 0 else V x) = lv at hlk hLay
          obtain ⟨ady, ny, cpy, hlv⟩ := hLay.slice
          subst hlv
          have hny := hLay.nilOf
          subst hny
          have mixed := csP.mixed
          go_quiet (fail)
          clear q0 q1 q2 q3 hlk mixed
          have hLayN : LayAt (w12.drewN nq) (.slice ady (M x).ys.length cpy) (M x).ys := hLay.below (bd nq)
          have hrrN := hrr.below (bd nq)
          have hbN : Below wo.heap.size wo (w12.drewN nq) := hb12r.trans ((bd nq).mono hb12r.size)
          have cN : (w12.drewN nq).cell? ⟨w8.heap.size, 0, none⟩ = some (.slice ad ls.length capu) := c0
          have hsN : w8.heap.size < (w12.drewN nq).heap.size := by have := hb12n.size; show _ < w12.heap.size; omega
          obtain ⟨w13, hw13⟩ : ∃ W, W = w12.drewN nq := ⟨_, rfl⟩
          rw [← hw13] at hLayN hrrN hbN cN hsN
          rw [← hw13]
          have HLay : Hid (LayAt w13 (.slice ady (M x).ys.length cpy) (M x).ys) := hLayN
          have HRR13 : Hid (RunRes w7.heap.size w13 mb nn D V M (.slice ad ls.length capu) ls) := hrrN
          have hyl : (M x).ys.length ≤ 40 := by have := HYS.out.len; omega
          clear hw13 hLay hLayN hrr hrrN bd c0 c1 hb12 hb12n
          go_wp2
          go_loopw [14] (fun i wq => ∃ j : Nat, j ≤ (M x).ys.length ∧ i = .int .i64 j ∧ wq = w13) (fun i _ => (M x).ys.length - (intOf i).toNat)
          case atStart => exact ⟨0, Nat.zero_le _, rfl, rfl⟩
          case round =>
            obtain ⟨j, hj, rfl, hwq⟩ := hrel
            subst wr
            by_cases hjl : j < (M x).ys.length
            · rcases HLay.out.form with ⟨a1, a2⟩ | ⟨gy, oy, cy, e1, _, _, _⟩
              · rw [a2] at hjl; exact absurd hjl (Nat.not_lt_zero _)
              · simp only [Value.slice.injEq] at e1
                obtain ⟨rfl, _, rfl⟩ := e1
                have hoy := HYS.out.ok _ (List.getElem_mem hjl)
                have y1 := (HLay.out.cell j 1 hjl (by omega)).1
                have y2 := (HLay.out.cell j 2 hjl (by omega)).1
                generalize (M x).ys[j] = yy at hoy y1 y2
                obtain ⟨yi, yq, yv⟩ := yy
                unfold LayOK at hoy
                simp only [layC, List.getElem?_cons_zero, List.getElem?_cons_succ] at hoy y1 y2
                have z1 : ¬ yq < 1 := by omega
                have z2 : ¬ yv < 0 := by omega
                go_wp2
                go_roundw
                case rel => exact ⟨j + 1, by omega, by go_num, trivial⟩
                case measure => simp [intOf]; omega
            · obtain rfl : j = (M x).ys.length := by omega
              go_wp2
              go_loopw [15] (fun i wq => ∃ j : Nat, j ≤ ls.length ∧ i = .int .i64 j ∧ Hid (Below w13.heap.size w13 wq)) (fun i _ => ls.length - (intOf i).toNat)
              case atStart => exact ⟨0, Nat.zero_le _, rfl, Below.refl _ _⟩
              case round =>
                obtain ⟨j, hj2, rfl, HBq⟩ := hrel
                have cq := (HBq.out.cell (p := ⟨w8.heap.size, 0, none⟩) hsN).trans cN
                by_cases hjl2 : j < ls.length
                · have ownq := own_below HRR13.out.own HBq.out (Nat.le_refl _)
                  rcases own_form ownq with ⟨_, hn, _⟩ | ⟨g, cu', hv, _, hgl, _⟩
                  · omega
                  · simp only [Value.slice.injEq] at hv
                    obtain ⟨rfl, _, rfl⟩ := hv
                    have hcw := fun t ht => (own_cell linC_len ownq j t hjl2 ht).1
                    have hpos := HPOS.out _ (List.getElem_mem hjl2)
                    have hlast := HLAST.out j hjl2
                    generalize ls[j] = y at hcw hpos hlast
                    have p0 := hcw 0 (by omega)
                    have p1 := hcw 1 (by omega)
                    have p2 := hcw 2 (by omega)
                    have p3 := hcw 3 (by omega)
                    have p4 := hcw 4 (by omega)
                    clear hcw
                    obtain ⟨y0, y1, y2, y3, y4⟩ := y
                    simp only [linC, List.getElem?_cons_zero, List.getElem?_cons_succ, Nat.add_zero] at p0 p1 p2 p3 p4
                    simp only at hpos hlast
                    have hjz : (j : Int) < (ls.length : Int) := by omega
                    have z1 : ¬ y1 < 0 := by omega
                    have z2 : ¬ y2 < 0 := by omega
                    have z3 : ¬ y3 < 0 := by omega
                    have HB1 : Hid (∀ o : Obj, Below w13.heap.size w13 (wr.alloc o)) := fun o => HBq.out.alloc HBq.out.size o
                    have cq2 := fun o : Obj => ((HB1.out o).cell (p := ⟨w8.heap.size, 0, none⟩) hsN).trans cN
                    have hll50 : ls.length ≤ 40 := by have := HHL.out; omega
                    by_cases hs : 0 < y2
                    · by_cases hl1 : j + 1 = ls.length
                      · have hy0 : (M x).ys.length = 0 := by rw [hlast hl1 hs]; rfl
                        have hl2 : (ls.length : Int) - 1 = (j : Int) := by omega
                        clear hlast
                        go_wp2
                        go_roundw
                        case rel => exact ⟨j + 1, by omega, by go_num, HB1.out _⟩
                        case measure => simp [intOf]; omega
                      · have hl2 : ¬ (j : Int) = (ls.length : Int) - 1 := by omega
                        clear hlast
                        go_wp2
                        go_roundw
                        case rel => exact ⟨j + 1, by omega, by go_num, HB1.out _⟩
                        case measure => simp [intOf]; omega
                    · clear hlast
                      go_wp2
                      go_roundw
                      case rel => exact ⟨j + 1, by omega, by go_num, HB1.out _⟩
                      case measure => simp [intOf]; omega
                · obtain rfl : j = ls.length := by omega
                  have hbq : Below wo.heap.size wo wr := hbN.trans (HBq.out.mono hbN.size)
                  have di := HCI.out wr hbq
                  have hkz2 : (k : Int) + 1 ≤ 1000 := by omega
                  have HFIN : Hid (Below w5.heap.size w5 (wr.alloc (.cells #[.int .i64 ((k : Int) + 1)] 3))) := (HBR.out.trans (hbq.mono hrz)).alloc (by have := hbq.size; omega) _
                  have hqz := hbq.size
                  have hcn : (wr.alloc (.cells #[.int .i64 ((k : Int) + 1)] 3)).cell? ⟨wr.heap.size, 0, none⟩ = some (.int .i64 ((k + 1 : Nat) : Int)) := by simp
                  have hfn : (wr.alloc (.cells #[.int .i64 ((k : Int) + 1)] 3)).frozen? ⟨wr.heap.size, 0, none⟩ = false := by simp
                  have HCN : Hid _ := hcn
                  have HFN : Hid _ := hfn
                  clear hcn hfn
                  go_wp2
                  go_roundw
                  case rel => exact ⟨k + 1, wr.heap.size, by omega, rfl, HCN.out, HFN.out, by omega, HFIN⟩
                  case measure =>
                    rw [HBZ.out, boxN_eq HCN.out]
                    omega
      · obtain rfl : k = S.length := by omega
        go_wp2
        go_ret
        exact ⟨rfl, hB5.trans (HBR.out.mono hB5.size)⟩
  · have hB' : heldB l = false := by simpa using hB
    rw [hB'] at hheld
    go_enter Try.func3, Try.ntmps3
    go_wp2_with fail
    refine hheld.mono ?_
    rintro r w1 ⟨rfl, hb1⟩
    go_wp2
    go_ret
    exact ⟨rfl, hb1⟩
end Go.Proofs.Ytgjjfeimgbibjaa.costConserves
