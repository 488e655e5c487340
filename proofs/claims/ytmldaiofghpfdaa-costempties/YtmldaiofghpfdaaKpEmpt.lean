/- The walk of tallymankeep.CostEmpties. -/
import Derived.Test.YtmldaiofghpfdaaKpEmptM
namespace Go.Proofs.Ytmldaiofghpfdaa.costEmpties
open Go.Proofs.Ytmldaiofghpfdaa
open Go.Proofs.Ytmldaiofghpfdaa.costApart (lookV lookL)
open Go.RowKit Go.Shelf Go.Maps
theorem upto_ne (n : Nat) (w : World) : Nonempty (UpK (Upto n) w) := ⟨⟨w, upto_refl n w⟩⟩
theorem upto_cell {n bx o : Nat} {w : World} (u : UpK (Upto n) w) {x : Value} (hb : bx < n) (h : w.cell? ⟨bx, o, none⟩ = some x) : u.v.cell? ⟨bx, o, none⟩ = some x := (World.cell?_of_block (a := ⟨bx, o, none⟩) (u.h bx hb)).trans h
def es3 (a b c : Ev) (j : Nat) : Ev := match j with
  | 0 => a
  | 1 => b
  | _ => c
theorem Agree.refl (a : Act) : Agree a a := ⟨rfl, rfl, fun _ _ => rfl⟩
theorem evAt_new (w : World) (e : Ev) : EvAt (w.alloc (.cells (evC e).toArray 36)) w.heap.size e := by
  constructor <;> simp [evC]
theorem three_boxes (w : World) (e1 e2 e3 : Ev) : EvAt (((w.alloc (.cells (evC e1).toArray 36)).alloc (.cells (evC e2).toArray 36)).alloc (.cells (evC e3).toArray 36)) w.heap.size e1
    ∧ EvAt (((w.alloc (.cells (evC e1).toArray 36)).alloc (.cells (evC e2).toArray 36)).alloc (.cells (evC e3).toArray 36)) (w.heap.size + 1) e2
    ∧ EvAt (((w.alloc (.cells (evC e1).toArray 36)).alloc (.cells (evC e2).toArray 36)).alloc (.cells (evC e3).toArray 36)) (w.heap.size + 2) e3
    ∧ Below w.heap.size w (((w.alloc (.cells (evC e1).toArray 36)).alloc (.cells (evC e2).toArray 36)).alloc (.cells (evC e3).toArray 36))
    ∧ (((w.alloc (.cells (evC e1).toArray 36)).alloc (.cells (evC e2).toArray 36)).alloc (.cells (evC e3).toArray 36)).heap.size = w.heap.size + 3 := by
  have b := fun (W : World) (o : Obj) => (Below.refl W.heap.size W).alloc (Nat.le_refl _) o
  refine ⟨((evAt_new w e1).below (b _ _)).below (b _ _), ?_, ?_, ?_, by simp⟩
  · have := (evAt_new (w.alloc (.cells (evC e1).toArray 36)) e2).below (b _ (.cells (evC e3).toArray 36))
    simpa using this
  · have := evAt_new ((w.alloc (.cells (evC e1).toArray 36)).alloc (.cells (evC e2).toArray 36)) e3
    simpa using this
  · exact (((Below.refl _ _).alloc (Nat.le_refl _) _).alloc (by simp) _).alloc (by simp; omega) _
theorem late1_any (e : Ev) (W : World) : Calls Try.prog 11 (#[evV e] ++ #[]) W fun r w' => r = .returned (.bool (decide (e.day = 99999))) ∧ Below W.heap.size W w' := by
  obtain ⟨id, item, kind, qty, price, ofI, day⟩ := e
  unfold evV
  simp only
  have hB : ∀ o : Obj, Below W.heap.size W (W.alloc o) := fun o => (Below.refl _ _).alloc (Nat.le_refl _) o
  have HB : Hid _ := hB
  clear hB
  by_cases hd : day = 99999
  · have hd2 : decide (day = 99999) = true := by simpa using hd
    go_enter Try.func11, Try.ntmps11
    go_wp2
    go_ret
    exact ⟨by rw [hd2]; simp [hd], HB.out _⟩
  · have hd2 : decide (day = 99999) = false := by simpa using hd
    go_enter Try.func11, Try.ntmps11
    go_wp2
    go_ret
    exact ⟨by rw [hd2]; simp [hd], HB.out _⟩
set_option maxRecDepth 20000 in
set_option maxHeartbeats 8000000 in
theorem walk (ao : Option Addr) (cap : Nat) (l : List Ev) (w : World) (hw : ∀ e ∈ l, EvW e) (h : EvsC w ao l) (hl : l.length ≤ maxLen) :
    Calls Try.prog 3 #[.slice ao l.length cap] w fun r w' => r = .returned (.bool true) ∧ Below w.heap.size w w' := by
  have hheld := held_any l ao cap w h hl
  have HC : Hid (EvsC w ao l) := h
  have HW : Hid (∀ e ∈ l, EvW e) := hw
  clear h hw
  by_cases hB : heldB l = true
  · rw [hB] at hheld
    have h40 : l.length ≤ 40 := by
      unfold heldB at hB
      simp only [Bool.and_eq_true, decide_eq_true_eq] at hB
      exact hB.1
    clear hB
    go_enter Try.func3, Try.ntmps3
    go_wp2_with fail
    refine hheld.mono ?_
    rintro r w1 ⟨rfl, hb1⟩
    go_wp2_with fail
    refine (told_any w1).mono ?_
    rintro r w2 ⟨rfl, hb2⟩
    have hB2 : Below w.heap.size w w2 := hb1.trans (hb2.mono hb1.size)
    have hnum := numbered_any l ao cap w2 (HC.out.below hB2) HW.out (by omega)
    go_wp2_with fail
    refine hnum.mono ?_
    rintro r w3 ⟨lv, rfl, hown3, hb3⟩
    have hB3 : Below w.heap.size w w3 := hB2.trans (hb3.mono hB2.size)
    have hnl := numb_len l
    have HRT : Hid (∀ y ∈ numb l, Rt y) := numb_rt
    have HEW : Hid (∀ y ∈ numb l, EvW y) := numb_w HW.out (by omega)
    have HOL : Hid ((ordd (numb l)).length = (numb l).length) := ordd_numb_len l
    obtain ⟨L, hL⟩ : ∃ L, L = numb l := ⟨_, rfl⟩
    rw [← hL] at hown3 hnl HRT HEW HOL
    clear hL hheld hnum hb1 hb2 hb3
    have hrun := run_any L lv w3 (EvsAt.of_own hown3) HEW.out (by omega)
    go_wp2_with fail
    refine hrun.mono ?_
    rintro r w4 ⟨rv, rfl, hres, hb4⟩
    have hok := goS_ok (ordd L) 0 stk00 (fun y => stk0_ok 0) (ordd_rt L)
    obtain ⟨M, hM⟩ : ∃ M, M = goS stk00 (ordd L) := ⟨_, rfl⟩
    obtain ⟨ls, hls⟩ : ∃ ls, ls = goL stk00 (ordd L) := ⟨_, rfl⟩
    rw [← hM, ← hls] at hres
    have HM : Hid (M = goS stk00 (ordd L) ∧ ls = goL stk00 (ordd L)) := ⟨hM, hls⟩
    have HOK : Hid (∀ y, StkOK L.length (M y)) := fun y => by
      have := hok.1 y
      rw [← hM, Nat.zero_add, HOL.out] at this
      exact this
    have HLL : Hid (ls.length = L.length) := by show _ = _; rw [hls, goL_len, HOL.out]
    clear hM hls hok hrun
    obtain ⟨u, mb, nn, D, V, rfl, g1, g2, g3⟩ := hres
    obtain ⟨ad, capu, hu⟩ := own_lenN g3.own
    subst hu
    have HRES : Hid (ResAt w3.heap.size w4 (.agg #[.slice ad ls.length capu, .map (some mb)]) M ls) := ⟨_, mb, nn, D, V, rfl, g1, g2, g3⟩
    have HRR : Hid (RunRes w3.heap.size w4 mb nn D V M (.slice ad ls.length capu) ls) := g3
    obtain ⟨w5, hw5⟩ : ∃ W, W = w4.alloc (.cells #[.slice ad ls.length capu, .map (some mb)] 29) := ⟨_, rfl⟩
    have hb5 : Below w4.heap.size w4 w5 := by rw [hw5]; exact (Below.refl _ _).alloc (Nat.le_refl _) _
    have r0 : w5.cell? ⟨w4.heap.size, 0, none⟩ = some (.slice ad ls.length capu) ∧ w5.cell? ⟨w4.heap.size, 1, none⟩ = some (.map (some mb)) := by rw [hw5]; simp
    have hs5 : w4.heap.size < w5.heap.size := by rw [hw5]; simp
    have own5 := own_below hown3 (hb4.trans (hb5.mono hb4.size)) (Nat.le_refl _)
    have HOWN5 : Hid (w5.ownsRow w2.heap.size 36 7 lv L.length (L.flatMap evC)) := own5
    obtain ⟨al, cl, hlv, hcl⟩ := (EvsAt.of_own own5).toC
    have hitm := items_any L al cl w5 hcl (by omega)
    have HW5 : Hid (w5 = _) := hw5
    have HR0 : Hid _ := r0
    have hB5 : Below w.heap.size w w5 := hB3.trans ((hb4.trans (hb5.mono hb4.size)).mono hB3.size)
    have HB5 : Hid (Below w4.heap.size w4 w5) := hb5
    clear hw5 g1 g2 g3 hown3 own5 r0 hb5 hb4 hB3 hB2
    subst hlv
    go_wp2_with fail
    rw [← HW5.out]
    refine hitm.mono ?_
    rintro r w6 ⟨sv, rfl, hown6, hb6⟩
    have hsl := its_len L
    have HSM : Hid (∀ x ∈ itsL L, ∃ e ∈ L, e.item = x) := fun x hx => its_mem hx
    obtain ⟨S, hS⟩ : ∃ S, S = itsL L := ⟨_, rfl⟩
    rw [← hS] at hown6 hsl HSM
    have hB6 : Below w.heap.size w w6 := hB5.trans (hb6.mono hB5.size)
    have HB6 : Hid (Below w5.heap.size w5 w6) := hb6
    have HOWN6 : Hid (w6.ownsRow w5.heap.size 9 1 sv S.length (S.flatMap strC)) := hown6
    obtain ⟨asv, cs, hsv⟩ := own_lenN hown6
    subst hsv
    clear hS hitm hb6 hown6 hcl
    go_wp2
    go_loopw [5] (fun i wr => ∃ k : Nat, k ≤ S.length ∧ i = .int .i64 k ∧ Hid (Below w6.heap.size w6 wr)) (fun i _ => S.length - (intOf i).toNat)
    case atStart => exact ⟨0, Nat.zero_le _, rfl, Below.refl _ _⟩
    case round =>
      obtain ⟨k, hk, rfl, HBR⟩ := hrel
      by_cases hlt : k < S.length
      · obtain ⟨x, hx⟩ : ∃ x, x = S[k] := ⟨_, rfl⟩
        rcases str_form HOWN6.out with ⟨a1, a2⟩ | ⟨gs, cs', e1, hgs, hcs⟩
        · rw [a2] at hlt; exact absurd hlt (Nat.not_lt_zero _)
        · simp only [Value.slice.injEq] at e1
          obtain ⟨rfl, _, rfl⟩ := e1
          have hcx : w6.cell? ⟨gs, k, none⟩ = some (.string x) := by rw [hcs k hlt, hx]
          have HXM : Hid (∃ e ∈ L, e.item = x) := HSM.out x (by rw [hx]; exact List.getElem_mem hlt)
          clear hcs hx
          have hxr : isName x.data.toList := by
            obtain ⟨e, he, hx⟩ := HXM.out
            rw [← hx]; exact (HRT.out e he).1
          have hxs : x.size ≤ 10 := by have := hxr.1.2; rw [eba_len] at this; exact this
          have HXR : Hid (isName x.data.toList) := hxr
          clear hxr
          have hs6 := HB6.out.size
          have hrz := HBR.out.size
          have HRW : Hid (∀ W, Below w6.heap.size w6 W → ResAt w3.heap.size W (.agg #[.slice ad ls.length capu, .map (some mb)]) M ls) := fun W hb => (HRES.out.below HB5.out).below (HB6.out.trans (hb.mono HB6.out.size))
          have hbx : ∀ W, Below w6.heap.size w6 W → W.cell? ⟨w4.heap.size, 0, none⟩ = some (.slice ad ls.length capu) ∧ W.cell? ⟨w4.heap.size, 1, none⟩ = some (.map (some mb)) ∧ W.cell? ⟨gs, k, none⟩ = some (.string x) := fun W hb =>
            ⟨(hb.cell (p := ⟨w4.heap.size, 0, none⟩) (by show w4.heap.size < _; omega)).trans ((HB6.out.cell (p := ⟨w4.heap.size, 0, none⟩) hs5).trans HR0.out.1),
             (hb.cell (p := ⟨w4.heap.size, 1, none⟩) (by show w4.heap.size < _; omega)).trans ((HB6.out.cell (p := ⟨w4.heap.size, 1, none⟩) hs5).trans HR0.out.2),
             (hb.cell (p := ⟨gs, k, none⟩) hgs).trans hcx⟩
          have HBX : Hid _ := hbx
          clear hbx hcx
          go_wp2_with fail
          refine wp_region_mix [(true, 0), (true, 1), (true, 2), (true, 3), (true, 4), (false, 5), (true, 6), (true, 7), (true, 8), (true, 9), (true, 10)] (by kernel_rfl) (by kernel_rfl) ?_
          obtain ⟨w7, hw7⟩ : ∃ W, W = wr.drew := ⟨_, rfl⟩
          rw [← hw7]
          have hb7 : Below wr.heap.size wr w7 := by rw [hw7]; exact below_drew _
          have hB7 : Below w6.heap.size w6 w7 := HBR.out.trans (hb7.mono HBR.out.size)
          have hU := up_ne
          have f0 := fun n : Up w7 => (HBX.out n.v (hB7.trans (n.h.mono hB7.size))).1
          have f1 := fun n : Up w7 => (HBX.out n.v (hB7.trans (n.h.mono hB7.size))).2.1
          have f2 := fun n : Up w7 => (HBX.out n.v (hB7.trans (n.h.mono hB7.size))).2.2
          have hsum := Sum_any (HRW.out w7 hB7) x (by unfold maxLen; omega) (HOK.out x) (by omega)
          clear hw7
          repeat (refine mix_q rfl ?_; go_big_quiet_step (fail); refine wpQuiet_nil ?_)
          refine mix_n rfl ?_
          clear f0 f1 f2
          go_wp2_with fail
          refine hsum.mono ?_
          rintro r w8 ⟨rfl, hb8⟩
          have hB8 : Below w6.heap.size w6 w8 := hB7.trans (hb8.mono hB7.size)
          clear hsum
          go_wp2_with fail
          refine ⟨rfl, hb8, ?_⟩
          have hokx := HOK.out x
          have hn0 := sum_nonneg hokx.ok
          have HOX : Hid (StkOK L.length (M x)) := hokx
          obtain ⟨Q, hQ⟩ : ∃ Q, Q = sumQ (M x).ys := ⟨_, rfl⟩
          obtain ⟨Y, hY⟩ : ∃ Y, Y = sumV (M x).ys := ⟨_, rfl⟩
          rw [← hQ] at hn0
          rw [← hQ, ← hY]
          have HQ : Hid (Q = sumQ (M x).ys ∧ Y = sumV (M x).ys) := ⟨hQ, hY⟩
          clear hQ hY hokx
          have hU := up_ne
          repeat (refine mix_q rfl ?_; go_big_quiet_step (fail); refine wpQuiet_nil ?_)
          refine mix_nil ?_
          by_cases hq0 : Q = 0
          · go_wp2
            go_roundw
            case rel => exact ⟨k + 1, by omega, by go_num, hB8⟩
            case measure => simp [intOf]; omega
          · by_cases hq1 : 100000 < Q
            · have e0 : (Q == 0) = false := by simpa using hq0
              go_wp2
              go_roundw
              case rel => exact ⟨k + 1, by omega, by go_num, hB8⟩
              case measure => simp [intOf]; omega
            · have e0 : (Q == 0) = false := by simpa using hq0
              have e1 : ¬ (Q > 100000) := by omega
              have cx0 := (HBX.out w8 hB8).2.2
              have hgs8 : gs < w8.heap.size := Nat.lt_of_lt_of_le hgs hB8.size
              have cx1 : ∀ o : Obj, (w8.alloc o).cell? ⟨gs, k, none⟩ = some (.string x) := fun o => (((Below.refl w8.heap.size w8).alloc (Nat.le_refl _) o).cell (p := ⟨gs, k, none⟩) hgs8).trans cx0
              have cx2 : ∀ o o' : Obj, ((w8.alloc o).alloc o').cell? ⟨gs, k, none⟩ = some (.string x) := fun o o' => ((((Below.refl w8.heap.size w8).alloc (Nat.le_refl _) o).alloc (by simp) o').cell (p := ⟨gs, k, none⟩) hgs8).trans cx0
              obtain ⟨w9, hw9⟩ : ∃ W, W = ((w8.alloc (.cells #[.int .i64 ((L.length : Int) + 1), .string x, .int .i64 3, .int .i64 Q, .int .i64 0, .int .i64 0, .int .i64 99999] 36)).alloc (.cells #[.int .i64 ((L.length : Int) + 2), .string x, .int .i64 4, .int .i64 0, .int .i64 0, .int .i64 0, .int .i64 99999] 36)).alloc (.cells #[.int .i64 ((L.length : Int) + 1), .string x, .int .i64 4, .int .i64 Q, .int .i64 0, .int .i64 0, .int .i64 99999] 36) := ⟨_, rfl⟩
              obtain ⟨E1, E2, E3, hb9, hs9⟩ := three_boxes w8 ⟨(L.length : Int) + 1, x, 3, Q, 0, 0, 99999⟩ ⟨(L.length : Int) + 2, x, 4, 0, 0, 0, 99999⟩ ⟨(L.length : Int) + 1, x, 4, Q, 0, 0, 99999⟩
              have e9 : ((w8.alloc (.cells (evC ⟨(L.length : Int) + 1, x, 3, Q, 0, 0, 99999⟩).toArray 36)).alloc (.cells (evC ⟨(L.length : Int) + 2, x, 4, 0, 0, 0, 99999⟩).toArray 36)).alloc (.cells (evC ⟨(L.length : Int) + 1, x, 4, Q, 0, 0, 99999⟩).toArray 36) = w9 := hw9.symm
              rw [e9] at E1 E2 E3 hb9 hs9
              clear e9
              have hB9 : Below w6.heap.size w6 w9 := hB8.trans (hb9.mono hB8.size)
              have own9 : w9.ownsRow w2.heap.size 36 7 (.slice al L.length cl) L.length (L.flatMap evC) := own_below HOWN5.out (HB6.out.trans (hB9.mono hs6)) (Nat.le_refl _)
              obtain ⟨al', cl', hlv', hcl9⟩ := (EvsAt.of_own own9).toC
              simp only [Value.slice.injEq] at hlv'
              obtain ⟨rfl, _, rfl⟩ := hlv'
              have hcont := cont_ev L al cl w9 hcl9 (by omega) 11 #[] (fun e => decide (e.day = 99999)) (enters_of Try.func11 (by kernel_rfl) rfl) (fun e W' _ => late1_any e W')
              have HW9 : Hid (w9 = _) := hw9
              have HEE : Hid (EvAt w9 w8.heap.size ⟨(L.length : Int) + 1, x, 3, Q, 0, 0, 99999⟩ ∧ EvAt w9 (w8.heap.size + 1) ⟨(L.length : Int) + 2, x, 4, 0, 0, 0, 99999⟩ ∧ EvAt w9 (w8.heap.size + 2) ⟨(L.length : Int) + 1, x, 4, Q, 0, 0, 99999⟩) := ⟨E1, E2, E3⟩
              have HOWN9 : Hid (w9.ownsRow w2.heap.size 36 7 (.slice al L.length cl) L.length (L.flatMap evC)) := own9
              clear hw9 E1 E2 E3 own9 hcl9
              go_wp2_with fail
              rw [← HW9.out]
              refine hcont.mono ?_
              rintro r w10 ⟨rfl, hb10⟩
              have hB10 : Below w6.heap.size w6 w10 := hB9.trans (hb10.mono hB9.size)
              clear hcont cx0 cx1 cx2
              generalize hlt2 : (L.any fun e => decide (e.day = 99999)) = lateB
              cases lateB with
              | true =>
                go_wp2
                go_ret
                exact ⟨rfl, hB6.trans (hB10.mono hB6.size)⟩
              | false =>
                have HDAY : Hid (∀ y ∈ L, y.day < 99999) := fun y hy => by
                  rw [List.any_eq_false] at hlt2
                  have h1 := hlt2 y hy
                  have h2 := (HRT.out y hy).2.1
                  have h3 : ¬ y.day = 99999 := by simpa using h1
                  omega
                clear hlt2
                obtain ⟨w11, hw11⟩ : ∃ W, W = w10.drew := ⟨_, rfl⟩
                have hb11 : Below w10.heap.size w10 w11 := by rw [hw11]; exact below_drew _
                have hs11 : w11.heap.size = w10.heap.size := by rw [hw11]; rfl
                have hs10 := hb10.size
                have hE := HEE.out
                have B0 := (hE.1.below hb10).below hb11
                have B1 := (hE.2.1.below hb10).below hb11
                have B2 := (hE.2.2.below hb10).below hb11
                have hU := upto_ne w10.heap.size
                have f00 := fun n : UpK (Upto w10.heap.size) w11 => upto_cell n (by omega) B0.c0
                have f01 := fun n : UpK (Upto w10.heap.size) w11 => upto_cell n (by omega) B0.c1
                have f02 := fun n : UpK (Upto w10.heap.size) w11 => upto_cell n (by omega) B0.c2
                have f03 := fun n : UpK (Upto w10.heap.size) w11 => upto_cell n (by omega) B0.c3
                have f04 := fun n : UpK (Upto w10.heap.size) w11 => upto_cell n (by omega) B0.c4
                have f05 := fun n : UpK (Upto w10.heap.size) w11 => upto_cell n (by omega) B0.c5
                have f06 := fun n : UpK (Upto w10.heap.size) w11 => upto_cell n (by omega) B0.c6
                have f10 := fun n : UpK (Upto w10.heap.size) w11 => upto_cell n (by omega) B1.c0
                have f11 := fun n : UpK (Upto w10.heap.size) w11 => upto_cell n (by omega) B1.c1
                have f12 := fun n : UpK (Upto w10.heap.size) w11 => upto_cell n (by omega) B1.c2
                have f13 := fun n : UpK (Upto w10.heap.size) w11 => upto_cell n (by omega) B1.c3
                have f14 := fun n : UpK (Upto w10.heap.size) w11 => upto_cell n (by omega) B1.c4
                have f15 := fun n : UpK (Upto w10.heap.size) w11 => upto_cell n (by omega) B1.c5
                have f16 := fun n : UpK (Upto w10.heap.size) w11 => upto_cell n (by omega) B1.c6
                have f20 := fun n : UpK (Upto w10.heap.size) w11 => upto_cell n (by omega) B2.c0
                have f21 := fun n : UpK (Upto w10.heap.size) w11 => upto_cell n (by omega) B2.c1
                have f22 := fun n : UpK (Upto w10.heap.size) w11 => upto_cell n (by omega) B2.c2
                have f23 := fun n : UpK (Upto w10.heap.size) w11 => upto_cell n (by omega) B2.c3
                have f24 := fun n : UpK (Upto w10.heap.size) w11 => upto_cell n (by omega) B2.c4
                have f25 := fun n : UpK (Upto w10.heap.size) w11 => upto_cell n (by omega) B2.c5
                have f26 := fun n : UpK (Upto w10.heap.size) w11 => upto_cell n (by omega) B2.c6
                simp only at f00 f01 f02 f03 f04 f05 f06 f10 f11 f12 f13 f14 f15 f16 f20 f21 f22 f23 f24 f25 f26
                have HW11 : Hid (w11 = w10.drew) := hw11
                have own11 : w11.ownsRow w2.heap.size 36 7 (.slice al L.length cl) L.length (L.flatMap evC) := own_below HOWN9.out (hb10.trans (hb11.mono hb10.size)) (Nat.le_refl _)
                have hwf : ∀ n : Int, 0 ≤ n → n ≤ 1000000 → (Lit.int .i64 n).wf = true := fun n h1 h2 => wf_int (by omega) (by omega)
                have hxm : x.size ≤ maxLen := by unfold maxLen; omega
                have hQ0 : 0 ≤ Q := hn0.1
                have hew : ∀ j, j < 3 → ∀ e ∈ L ++ [es3 ⟨(L.length : Int) + 1, x, 3, Q, 0, 0, 99999⟩ ⟨(L.length : Int) + 2, x, 4, 0, 0, 0, 99999⟩ ⟨(L.length : Int) + 1, x, 4, Q, 0, 0, 99999⟩ j], EvW e := fun j hj e he => by
                  rcases List.mem_append.1 he with h | h
                  · exact HEW.out e h
                  · have := List.mem_singleton.1 h
                    subst this
                    have h3 : j = 0 ∨ j = 1 ∨ j = 2 := by omega
                    rcases h3 with rfl | rfl | rfl
                    · exact ⟨hwf _ (by show (0 : Int) ≤ (L.length : Int) + 1; omega) (by show (L.length : Int) + 1 ≤ 1000000; omega), hxm, hwf 3 (by omega) (by omega), hwf Q (by omega) (by omega), hwf 0 (by omega) (by omega), hwf 0 (by omega) (by omega), hwf 99999 (by omega) (by omega)⟩
                    · exact ⟨hwf _ (by show (0 : Int) ≤ (L.length : Int) + 2; omega) (by show (L.length : Int) + 2 ≤ 1000000; omega), hxm, hwf 4 (by omega) (by omega), hwf 0 (by omega) (by omega), hwf 0 (by omega) (by omega), hwf 0 (by omega) (by omega), hwf 99999 (by omega) (by omega)⟩
                    · exact ⟨hwf _ (by show (0 : Int) ≤ (L.length : Int) + 1; omega) (by show (L.length : Int) + 1 ≤ 1000000; omega), hxm, hwf 4 (by omega) (by omega), hwf Q (by omega) (by omega), hwf 0 (by omega) (by omega), hwf 0 (by omega) (by omega), hwf 99999 (by omega) (by omega)⟩
                clear hw11 B0 B1 B2 hE
                go_wp2_with fail
                refine wp_region_inv (Upto w10.heap.size) [0, 2, 6, 8, 12, 14] (JJ (es3 ⟨(L.length : Int) + 1, x, 3, Q, 0, 0, 99999⟩ ⟨(L.length : Int) + 2, x, 4, 0, 0, 0, 99999⟩ ⟨(L.length : Int) + 1, x, 4, Q, 0, 0, 99999⟩) L (.slice al L.length cl) w10.heap.size w11) (upto_refl _) (upto_trans _) (by kernel_rfl) (by kernel_rfl)
                  (inv_step ⟨three ⟨_, rfl, rfl, rfl, rfl⟩ ⟨_, rfl, rfl, rfl, rfl⟩ ⟨_, rfl, rfl, rfl, rfl⟩, three ⟨_, rfl, rfl, rfl, rfl⟩ ⟨_, rfl, rfl, rfl, rfl⟩ ⟨_, rfl, rfl, rfl, rfl⟩, three ⟨_, rfl, rfl, rfl, rfl⟩ ⟨_, rfl, rfl, rfl, rfl⟩ ⟨_, rfl, rfl, rfl, rfl⟩, three ⟨_, rfl, rfl, rfl, rfl⟩ ⟨_, rfl, rfl, rfl, rfl⟩ ⟨_, rfl, rfl, rfl, rfl⟩, three ⟨_, rfl, rfl, rfl, rfl⟩ ⟨_, rfl, rfl, rfl, rfl⟩ ⟨_, rfl, rfl, rfl, rfl⟩⟩ (by kernel_rfl) own11 (by omega) hew ?_) ?_
                rotate_left
                · rw [← HW11.out]
                  simp only [List.map_cons, List.map_nil]
                  repeat (refine keep_q rfl ?_; go_big_quiet_step (fail); refine wpQuiet_nil ?_)
                  refine keep_nil ?_
                  refine ⟨0, [false, false, false, false, false, false], fun _ _ => False, fun _ => .bool false, Nat.zero_le _, rfl, rfl, by kernel_rfl, ?_⟩
                  refine ⟨?_, ?_, ?_, ?_, upto_refl _ _, hs11, Nat.le_of_eq hs11.symm, ⟨rfl, rfl, rfl⟩, fun _ _ _ _ h => absurd h id, fun _ _ h => absurd h id, fun _ _ h => by omega, fun h => by omega, fun h => by omega, fun j hj hf => ?_, fun j hj hf => ?_⟩
                  · exact (((((Agree.refl _).put (d := 77) (by decide) _).put (d := 79) (by decide) _).put (d := 83) (by decide) _).put (d := 85) (by decide) _).put (d := 89) (by decide) _ |>.put (d := 91) (by decide) _
                  · simp
                  · exact three rfl rfl rfl
                  · exact three rfl rfl rfl
                  · have hh : ∀ j, j < 3 → [false, false, false, false, false, false][j]? = some true → False := three (by simp) (by simp) (by simp)
                    exact (hh j hj hf).elim
                  · have hh : ∀ j, j < 3 → [false, false, false, false, false, false][3 + j]? = some true → False := three (by simp) (by simp) (by simp)
                    exact (hh j hj hf).elim
                clear f00 f01 f02 f03 f04 f05 f06 f10 f11 f12 f13 f14 f15 f16 f20 f21 f22 f23 f24 f25 f26
                intro aa wz F val hJ
                have hokx := HOX.out
                have LL0 := last_line (e := ⟨(L.length : Int) + 1, x, 3, Q, 0, 0, 99999⟩) HRT.out ⟨HXR.out, ⟨by show (0 : Int) ≤ 99999; omega, by show (99999 : Int) ≤ 99999; omega⟩, Or.inr (Or.inr (Or.inl ⟨rfl, ⟨by show 1 ≤ Q; omega, by show Q ≤ 100000; omega⟩, rfl, rfl⟩))⟩ HDAY.out HM.out.1 HM.out.2
                have LL1 := last_line (e := ⟨(L.length : Int) + 2, x, 4, 0, 0, 0, 99999⟩) HRT.out ⟨HXR.out, ⟨by show (0 : Int) ≤ 99999; omega, by show (99999 : Int) ≤ 99999; omega⟩, Or.inr (Or.inr (Or.inr ⟨rfl, ⟨by show (0 : Int) ≤ 0; omega, by show (0 : Int) ≤ 100000; omega⟩, rfl, rfl⟩))⟩ HDAY.out HM.out.1 HM.out.2
                have LL2 := last_line (e := ⟨(L.length : Int) + 1, x, 4, Q, 0, 0, 99999⟩) HRT.out ⟨HXR.out, ⟨by show (0 : Int) ≤ 99999; omega, by show (99999 : Int) ≤ 99999; omega⟩, Or.inr (Or.inr (Or.inr ⟨rfl, ⟨by show 0 ≤ Q; omega, by show Q ≤ 100000; omega⟩, rfl, rfl⟩))⟩ HDAY.out HM.out.1 HM.out.2
                simp only at LL0 LL1 LL2
                rw [do_out hokx.ok HQ.out.1, ← HQ.out.2] at LL0
                rw [do_none hokx.ok, ← HQ.out.2] at LL1
                rw [do_same HQ.out.1] at LL2
                simp only at LL0 LL1 LL2
                obtain ⟨R0a, R0b⟩ := hJ.res 0 (by decide) (by decide)
                obtain ⟨R1a, R1b⟩ := hJ.res 1 (by decide) (by decide)
                obtain ⟨R2a, R2b⟩ := hJ.res 2 (by decide) (by decide)
                obtain ⟨X0a, X0b⟩ := hJ.box 0 (by decide) rfl
                obtain ⟨X1a, X1b⟩ := hJ.box 1 (by decide) rfl
                obtain ⟨X2a, X2b⟩ := hJ.box 2 (by decide) rfl
                have hAG := hJ.ag.is
                have hupz := hJ.up
                have hszz := hJ.le1
                have hoth := hJ.oth
                have hdis := hJ.dis
                have hbnd := hJ.bnd
                clear hJ
                simp only [slots, List.foldl_cons, List.foldl_nil, Act.put, List.setIfInBounds_toArray, List.set_cons_succ, List.set_cons_zero] at hAG
                simp only [Nat.mul_zero, Nat.add_zero, Nat.mul_one, Nat.reduceMul, Nat.reduceAdd] at R0a R1a R2a X0a X1a X2a X0b X1b X2b
                obtain ⟨g0, hg0, hF0, hh0⟩ := X0b.now
                obtain ⟨g1, hg1, hF1, hh1⟩ := X1b.now
                obtain ⟨g2, hg2, hF2, hh2⟩ := X2b.now
                obtain ⟨lo0, u0, m0, n0, D0, V0, hv0, _, _, rr0⟩ := R0b.now
                obtain ⟨lo1, u1, m1, n1, D1, V1, hv1, _, _, rr1⟩ := R1b.now
                obtain ⟨lo2, u2', m2, n2, D2, V2, hv2, _, _, rr2⟩ := R2b.now
                have hll0 : (ls ++ [(⟨(L.length : Int) + 1, Y, 0, 0, false⟩ : Lin)]).length = L.length + 1 := by rw [List.length_append, HLL.out]; rfl
                have hll1 : (ls ++ [(⟨(L.length : Int) + 2, Y, 0, 0, false⟩ : Lin)]).length = L.length + 1 := by rw [List.length_append, HLL.out]; rfl
                have hll2 : (ls ++ [(⟨(L.length : Int) + 1, 0, 0, 0, false⟩ : Lin)]).length = L.length + 1 := by rw [List.length_append, HLL.out]; rfl
                have ow0 := rr0.own
                have ow1 := rr1.own
                have ow2 := rr2.own
                rw [show es3 _ _ _ 0 = (⟨(L.length : Int) + 1, x, 3, Q, 0, 0, 99999⟩ : Ev) from rfl, LL0.2, hll0] at ow0
                rw [show es3 _ _ _ 1 = (⟨(L.length : Int) + 2, x, 4, 0, 0, 0, 99999⟩ : Ev) from rfl, LL1.2, hll1] at ow1
                rw [show es3 _ _ _ 2 = (⟨(L.length : Int) + 1, x, 4, Q, 0, 0, 99999⟩ : Ev) from rfl, LL2.2, hll2] at ow2
                obtain ⟨ad0, cu0, hu0⟩ := own_lenN ow0
                obtain ⟨ad1, cu1, hu1⟩ := own_lenN ow1
                obtain ⟨ad2, cu2, hu2⟩ := own_lenN ow2
                subst hu0 hu1 hu2
                have HS0 : Hid (∀ W : World, (∀ k, F 0 k → W.heap[k]? = wz.heap[k]?) → wz.heap.size ≤ W.heap.size → ∃ lo, ResAt lo W (.agg #[.slice ad0 (L.length + 1) cu0, .map (some m0)]) (upd M x ⟨[], (M x).price⟩) (ls ++ [⟨(L.length : Int) + 1, Y, 0, 0, false⟩])) := fun W h1 h2 => by
                  obtain ⟨lo, h3⟩ := R0b.still W h1 h2
                  rw [hv0, show es3 _ _ _ 0 = (⟨(L.length : Int) + 1, x, 3, Q, 0, 0, 99999⟩ : Ev) from rfl, LL0.1, LL0.2] at h3
                  exact ⟨lo, h3⟩
                have HS1 : Hid (∀ W : World, (∀ k, F 1 k → W.heap[k]? = wz.heap[k]?) → wz.heap.size ≤ W.heap.size → ∃ lo, ResAt lo W (.agg #[.slice ad1 (L.length + 1) cu1, .map (some m1)]) (upd M x ⟨[], (M x).price⟩) (ls ++ [⟨(L.length : Int) + 2, Y, 0, 0, false⟩])) := fun W h1 h2 => by
                  obtain ⟨lo, h3⟩ := R1b.still W h1 h2
                  rw [hv1, show es3 _ _ _ 1 = (⟨(L.length : Int) + 2, x, 4, 0, 0, 0, 99999⟩ : Ev) from rfl, LL1.1, LL1.2] at h3
                  exact ⟨lo, h3⟩
                have HS2 : Hid (∀ W : World, (∀ k, F 2 k → W.heap[k]? = wz.heap[k]?) → wz.heap.size ≤ W.heap.size → ∃ lo, ResAt lo W (.agg #[.slice ad2 (L.length + 1) cu2, .map (some m2)]) (upd M x (M x)) (ls ++ [⟨(L.length : Int) + 1, 0, 0, 0, false⟩])) := fun W h1 h2 => by
                  obtain ⟨lo, h3⟩ := R2b.still W h1 h2
                  rw [hv2, show es3 _ _ _ 2 = (⟨(L.length : Int) + 1, x, 4, Q, 0, 0, 99999⟩ : Ev) from rfl, LL2.1, LL2.2] at h3
                  exact ⟨lo, h3⟩
                rw [X0a, X1a, X2a, R0a, R1a, R2a, hg0, hg1, hg2, hv0, hv1, hv2] at hAG
                generalize aa.eval (.tmp 77) = z77 at hAG
                generalize aa.eval (.tmp 78) = z78 at hAG
                generalize aa.eval (.tmp 79) = z79 at hAG
                generalize aa.eval (.tmp 80) = z80 at hAG
                generalize aa.eval (.tmp 81) = z81 at hAG
                generalize aa.eval (.tmp 83) = z83 at hAG
                generalize aa.eval (.tmp 84) = z84 at hAG
                generalize aa.eval (.tmp 85) = z85 at hAG
                generalize aa.eval (.tmp 86) = z86 at hAG
                generalize aa.eval (.tmp 87) = z87 at hAG
                generalize aa.eval (.tmp 89) = z89 at hAG
                generalize aa.eval (.tmp 90) = z90 at hAG
                generalize aa.eval (.tmp 91) = z91 at hAG
                generalize aa.eval (.tmp 92) = z92 at hAG
                generalize aa.eval (.tmp 93) = z93 at hAG
                clear R0a R1a R2a X0a X1a X2a R0b R1b R2b X0b X1b X2b hg0 hg1 hg2 hv0 hv1 hv2 rr0 rr1 rr2 ow0 ow1 ow2 hll0 hll1 hll2 LL0 LL1 LL2
                subst hAG
                have n01 : g0 ≠ g1 := fun e => hdis 7 8 g0 (by omega) hF0 (by rw [e]; exact hF1)
                have n02 : g0 ≠ g2 := fun e => hdis 7 9 g0 (by omega) hF0 (by rw [e]; exact hF2)
                have n12 : g1 ≠ g2 := fun e => hdis 8 9 g1 (by omega) hF1 (by rw [e]; exact hF2)
                obtain ⟨W1, W2, W3, hW1, hW2, hW3, i1, j2, HA, hk3, hs3, o3, u1, u2, u3⟩ := three_set (.slice ad0 (L.length + 1) cu0) (.map (some m0)) (.slice ad1 (L.length + 1) cu1) (.map (some m1)) (.slice ad2 (L.length + 1) cu2) (.map (some m2)) hh0 hh1 hh2 n01 n02 n12
                replace u1 : Upto w10.heap.size wz W1 := u1 _ (hbnd 7 g0 hF0).1
                replace u2 : Upto w10.heap.size W1 W2 := u2 _ (hbnd 8 g1 hF1).1
                replace u3 : Upto w10.heap.size W2 W3 := u3 _ (hbnd 9 g2 hF2).1
                have hbZ : Below w10.heap.size w10 W3 := below3 hb11 hupz hoth o3 (by rw [hs3]; exact hszz) u1 u2 u3
                obtain ⟨l0', T0⟩ := HS0.out W3 (keep3 hdis hF0 hF1 hF2 hk3 0 (by decide)) (Nat.le_of_eq hs3.symm)
                obtain ⟨l1', T1⟩ := HS1.out W3 (keep3 hdis hF0 hF1 hF2 hk3 1 (by decide)) (Nat.le_of_eq hs3.symm)
                obtain ⟨l2', T2⟩ := HS2.out W3 (keep3 hdis hF0 hF1 hF2 hk3 2 (by decide)) (Nat.le_of_eq hs3.symm)
                replace HA : Hid (W3.heap[g0]? = some (.cells #[.slice ad0 (L.length + 1) cu0, .map (some m0)] 29) ∧ W3.heap[g1]? = some (.cells #[.slice ad1 (L.length + 1) cu1, .map (some m1)] 29) ∧ W3.heap[g2]? = some (.cells #[.slice ad2 (L.length + 1) cu2, .map (some m2)] 29)) := HA
                have HT0 : Hid (ResAt l0' W3 (.agg #[.slice ad0 (L.length + 1) cu0, .map (some m0)]) (upd M x ⟨[], (M x).price⟩) (ls ++ [⟨(L.length : Int) + 1, Y, 0, 0, false⟩])) := T0
                have HT1 : Hid (ResAt l1' W3 (.agg #[.slice ad1 (L.length + 1) cu1, .map (some m1)]) (upd M x ⟨[], (M x).price⟩) (ls ++ [⟨(L.length : Int) + 2, Y, 0, 0, false⟩])) := T1
                have HT2 : Hid (ResAt l2' W3 (.agg #[.slice ad2 (L.length + 1) cu2, .map (some m2)]) (upd M x (M x)) (ls ++ [⟨(L.length : Int) + 1, 0, 0, 0, false⟩])) := T2
                obtain ⟨c00, c01, c02, c03⟩ := cell_of hh0
                obtain ⟨c10, c11, c12, c13⟩ := cell_of i1
                obtain ⟨c20, c21, c22, c23⟩ := cell_of j2
                have HW1 : Hid (W1 = (wz.setCell ⟨g0, 0, none⟩ (.slice ad0 (L.length + 1) cu0)).setCell ⟨g0, 1, none⟩ (.map (some m0))) := hW1
                have HW2 : Hid (W2 = (W1.setCell ⟨g1, 0, none⟩ (.slice ad1 (L.length + 1) cu1)).setCell ⟨g1, 1, none⟩ (.map (some m1))) := hW2
                have HW3 : Hid (W3 = (W2.setCell ⟨g2, 0, none⟩ (.slice ad2 (L.length + 1) cu2)).setCell ⟨g2, 1, none⟩ (.map (some m2))) := hW3
                clear hW1 hW2 hW3 i1 j2 T0 T1 T2 hh0 hh1 hh2 hk3 hs3 o3 HS0 HS1 HS2 hdis hbnd hF0 hF1 hF2 hupz hoth hszz
                refine keep_n rfl ?_
                go_wp2_with fail
                refine ⟨rfl, ?_, ?_⟩
                · rw [← HW1.out]; exact u1
                rw [← HW1.out]
                refine keep_n rfl ?_
                go_wp2_with fail
                refine ⟨rfl, ?_, ?_⟩
                · rw [← HW2.out]; exact u2
                rw [← HW2.out]
                refine keep_n rfl ?_
                go_wp2_with fail
                refine ⟨rfl, ?_, ?_⟩
                · rw [← HW3.out]; exact u3
                rw [← HW3.out]
                refine keep_nil ?_
                clear c00 c01 c02 c03 c10 c11 c12 c13 c20 c21 c22 c23
                have hBZ : Below w6.heap.size w6 W3 := hB10.trans (hbZ.mono hB10.size)
                obtain ⟨k0, _, _⟩ := HA.out
                obtain ⟨_, _, _, rr0⟩ := res_at HT0.out
                obtain ⟨a00, a01, _, _⟩ := cell_of k0
                have bd : ∀ j, Below W3.heap.size W3 (W3.drewN j) := fun j => ⟨rfl, rfl, rfl, Nat.le_refl _, fun _ _ => rfl⟩
                obtain ⟨y0, hy0, ln0⟩ := line_at rr0 HLL.out
                subst hy0
                have lk0 := fun j => lookV (rr0.below (bd j)) x (by unfold maxLen; omega)
                simp only [upd_same, List.isEmpty_nil, if_true] at lk0
                have q00 : ∀ j, (W3.drewN j).cell? ⟨g0, 0, none⟩ = some (.slice (some ⟨y0, 0, none⟩) (L.length + 1) cu0) := fun j => a00
                have q01 : ∀ j, (W3.drewN j).cell? ⟨g0, 1, none⟩ = some (.map (some m0)) := fun j => a01
                have q02 : ∀ j, (W3.drewN j).cell? ⟨y0, L.length * 5 + 1, none⟩ = some (.int .i64 Y) := fun j => ln0 1 _ (by decide) rfl
                have q03 : ∀ j, (W3.drewN j).cell? ⟨y0, L.length * 5 + 2, none⟩ = some (.int .i64 0) := fun j => ln0 2 _ (by decide) rfl
                have qx : ∀ j, (W3.drewN j).cell? ⟨gs, k, none⟩ = some (.string x) := fun j => (HBX.out W3 hBZ).2.2
                have hkz : (k : Int) < (S.length : Int) := by omega
                have mixed := csP.mixed
                clear rr0 ln0 k0 a00 a01
                go_wp2_with fail
                go_quiet (fail)
                obtain ⟨W4, hW4⟩ : ∃ W, W = W3.drewN nq := ⟨_, rfl⟩
                rw [← hW4]
                have b4 : Below W3.heap.size W3 W4 := by rw [hW4]; exact bd nq
                have hB4 : Below w6.heap.size w6 W4 := hBZ.trans (b4.mono hBZ.size)
                clear hW4 bd lk0 q00 q01 q02 q03 qx
                obtain ⟨_, k1, k2⟩ := HA.out
                obtain ⟨_, _, _, rr1⟩ := res_at (HT1.out.below b4)
                obtain ⟨_, _, V2, rr2⟩ := res_at (HT2.out.below b4)
                obtain ⟨_, _, VM, rrm⟩ := res_at (HRW.out W4 hB4)
                have z1 := b4.block g1 (heap_some_lt k1)
                have z2 := b4.block g2 (heap_some_lt k2)
                obtain ⟨a10, a11, _, _⟩ := cell_of (z1.trans k1)
                obtain ⟨a20, a21, _, _⟩ := cell_of (z2.trans k2)
                have bd : ∀ j, Below W4.heap.size W4 (W4.drewN j) := fun j => ⟨rfl, rfl, rfl, Nat.le_refl _, fun _ _ => rfl⟩
                obtain ⟨y1, hy1, ln1⟩ := line_at rr1 HLL.out
                obtain ⟨y2, hy2, ln2⟩ := line_at rr2 HLL.out
                subst hy1 hy2
                have lk1 := fun j => lookV (rr1.below (bd j)) x (by unfold maxLen; omega)
                have lk2 := fun j => lookV (rr2.below (bd j)) x (by unfold maxLen; omega)
                have lkm := fun j => lookV (rrm.below (bd j)) x (by unfold maxLen; omega)
                have hyl : (M x).ys.length ≤ 1000 := by have := (HOX.out).len; omega
                have hE := fun j => eqLay_any (M x).ys _ _ (W4.drewN j) (by have := lookL (rr2.below (bd j)) x; rw [upd_same] at this; exact this) (lookL (rrm.below (bd j)) x) (by omega)
                simp only [upd_same, List.isEmpty_nil, if_true] at lk1
                simp only [upd_same] at lk2
                generalize (if (M x).ys.isEmpty = true then Value.slice none 0 0 else V2 x) = lv1 at lk2 hE
                generalize (if (M x).ys.isEmpty = true then Value.slice none 0 0 else VM x) = lv2 at lkm hE
                have q10 : ∀ j, (W4.drewN j).cell? ⟨g1, 0, none⟩ = some (.slice (some ⟨y1, 0, none⟩) (L.length + 1) cu1) := fun j => a10
                have q11 : ∀ j, (W4.drewN j).cell? ⟨g1, 1, none⟩ = some (.map (some m1)) := fun j => a11
                have q12 : ∀ j, (W4.drewN j).cell? ⟨y1, L.length * 5 + 1, none⟩ = some (.int .i64 Y) := fun j => ln1 1 _ (by decide) rfl
                have q14 : ∀ j, (W4.drewN j).cell? ⟨y1, L.length * 5 + 4, none⟩ = some (.bool false) := fun j => ln1 4 _ (by decide) rfl
                have q20 : ∀ j, (W4.drewN j).cell? ⟨g2, 0, none⟩ = some (.slice (some ⟨y2, 0, none⟩) (L.length + 1) cu2) := fun j => a20
                have q21 : ∀ j, (W4.drewN j).cell? ⟨g2, 1, none⟩ = some (.map (some m2)) := fun j => a21
                have q22 : ∀ j, (W4.drewN j).cell? ⟨y2, L.length * 5 + 1, none⟩ = some (.int .i64 0) := fun j => ln2 1 _ (by decide) rfl
                have qx : ∀ j, (W4.drewN j).cell? ⟨gs, k, none⟩ = some (.string x) := fun j => (HBX.out W4 hB4).2.2
                have qr : ∀ j, (W4.drewN j).cell? ⟨w4.heap.size, 1, none⟩ = some (.map (some mb)) := fun j => (HBX.out W4 hB4).2.1
                clear rr1 rr2 rrm ln1 ln2 k1 k2 a10 a11 a20 a21 z1 z2
                go_wp2_with fail
                go_quiet (first | (go_at_call 13; refine Calls.quiet_of (hE _)))
                have hBN : Below w6.heap.size w6 (W4.drewN nq) := hB4.trans ((bd nq).mono hB4.size)
                clear bd lk1 lk2 lkm hE q10 q11 q12 q14 q20 q21 q22 qx qr
                go_wp2
                go_roundw
                case rel => exact ⟨k + 1, by omega, by go_num, hBN⟩
                case measure => simp [intOf]; omega
      · obtain rfl : k = S.length := by omega
        go_wp2
        go_ret
        exact ⟨rfl, hB6.trans (HBR.out.mono hB6.size)⟩
  · have hB' : heldB l = false := by simpa using hB
    rw [hB'] at hheld
    go_enter Try.func3, Try.ntmps3
    go_wp2_with fail
    refine hheld.mono ?_
    rintro r w1 ⟨rfl, hb1⟩
    go_wp2
    go_ret
    exact ⟨rfl, hb1⟩
end Go.Proofs.Ytmldaiofghpfdaa.costEmpties
