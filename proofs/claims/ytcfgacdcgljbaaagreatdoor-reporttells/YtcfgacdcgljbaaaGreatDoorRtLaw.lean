/- The walk of tallymanlaw.ReportTells. -/
import Derived.Test.YtcfgacdcgljbaaaGreatDoorBpD
import Derived.Test.YtcfgacdcgljbaaaGreatDoorBpH
import Derived.Test.YtcfgacdcgljbaaaGreatDoorBpE
import Derived.Test.YtcfgacdcgljbaaaGreatDoorBpF
import Derived.Test.YtcfgacdcgljbaaaGreatDoorBoG
import Derived.Laws.StructEq
namespace Go.Proofs.YtcfgacdcgljbaaaGreatDoor
open Go.RowKit Go.Maps
/-- What the listed variables hold. -/
structure GlobT (w : World) : Prop where
  et : ErrType w
  tab : TabG w
theorem GlobT.below {w w' : World} (h : GlobT w) (hb : Below w.heap.size w w') : GlobT w' := ⟨h.et.below hb, h.tab.below hb⟩
theorem neq_rho (x : ByteArray) (q v : Int) (w : World) : (binOp .neq 103 (.agg #[.string x, .int .i64 q, .int .i64 v]) (.agg #[.string x, .int .i64 q, .int .i64 v])).run Tryz.prog w = .ok (.bool false) w := by
  have hS : Tryz.prog.underlying 103 = some (.struct (Tryz.prog.fieldsOf 103)) := by kernel_rfl
  have hp : Tryz.prog.stoodInHeld 103 = false := by kernel_rfl
  have u3 := Tryz.underlying3
  have a3 := Tryz.isAgg3
  have z3 := Tryz.sizeOf3
  have u4 := Tryz.underlying9
  have a4 := Tryz.isAgg9
  have z4 := Tryz.sizeOf9
  rw [run_neq_struct, show (10000 : Nat) = 9999 + 1 from rfl, run_equalIn_agg w 9999 103 _ _ hS hp]
  simp only [Program.fieldsOf, Tryz.underlying103]
  go_simp
theorem neq_evT (a : Int) (x : ByteArray) (b c d e f : Int) (w : World) : (binOp .neq 44 (.agg #[.int .i64 a, .string x, .int .i64 b, .int .i64 c, .int .i64 d, .int .i64 e, .int .i64 f]) (.agg #[.int .i64 a, .string x, .int .i64 b, .int .i64 c, .int .i64 d, .int .i64 e, .int .i64 f])).run Tryz.prog w = .ok (.bool false) w := by
  have hS : Tryz.prog.underlying 44 = some (.struct (Tryz.prog.fieldsOf 44)) := by kernel_rfl
  have hp : Tryz.prog.stoodInHeld 44 = false := by kernel_rfl
  have u3 := Tryz.underlying3
  have a3 := Tryz.isAgg3
  have z3 := Tryz.sizeOf3
  have u4 := Tryz.underlying9
  have a4 := Tryz.isAgg9
  have z4 := Tryz.sizeOf9
  rw [run_neq_struct, show (10000 : Nat) = 9999 + 1 from rfl, run_equalIn_agg w 9999 44 _ _ hS hp]
  simp only [Program.fieldsOf, Tryz.underlying44]
  go_simp
theorem neq_linT (a b c d : Int) (e : Bool) (w : World) : (binOp .neq 114 (.agg #[.int .i64 a, .int .i64 b, .int .i64 c, .int .i64 d, .bool e]) (.agg #[.int .i64 a, .int .i64 b, .int .i64 c, .int .i64 d, .bool e])).run Tryz.prog w = .ok (.bool false) w := by
  have hS : Tryz.prog.underlying 114 = some (.struct (Tryz.prog.fieldsOf 114)) := by kernel_rfl
  have hp : Tryz.prog.stoodInHeld 114 = false := by kernel_rfl
  have u3 := Tryz.underlying3
  have a3 := Tryz.isAgg3
  have z3 := Tryz.sizeOf3
  have u4 := Tryz.underlying4
  have a4 := Tryz.isAgg4
  have z4 := Tryz.sizeOf4
  rw [run_neq_struct, show (10000 : Nat) = 9999 + 1 from rfl, run_equalIn_agg w 9999 114 _ _ hS hp]
  simp only [Program.fieldsOf, Tryz.underlying114]
  go_simp
def evD0 : Ev := ⟨0, ⟨#[]⟩, 0, 0, 0, 0, 0⟩
def linD0 : Lin := ⟨0, 0, 0, 0, false⟩
/-- A move, in fourteen cells. -/
noncomputable def movD (L : List Ev) (x : ByteArray) (k : Nat) : List Value := evC (L.getD k evD0) ++ (linC ((goL stk00 (ordd (L.take (k + 1)))).getD k linD0) ++ [.int .i64 (sumQ (goS stk00 (ordd (L.take (k + 1))) x).ys), .int .i64 (sumV (goS stk00 (ordd (L.take (k + 1))) x).ys)])
theorem movD_len (L : List Ev) (x : ByteArray) (k : Nat) : (movD L x k).length = 14 := rfl
theorem movD_flat {L : List Ev} {x : ByteArray} (hr : ∀ e ∈ L, Rt e) : (List.range L.length).flatMap (movC L x) = (List.range L.length).flatMap (movD L x) := by
  rw [List.flatMap_def, List.flatMap_def]
  congr 1
  refine List.map_congr_left fun k hk => ?_
  have hk' := List.mem_range.1 hk
  have h1 : (goL stk00 (ordd (L.take (k + 1)))).length = k + 1 := by
    rw [goL_len, ordd_stl (fun e he => hr e (List.mem_of_mem_take he)), stl_len, List.length_take]
    omega
  unfold movC movD
  rw [List.getElem?_eq_getElem hk', List.getElem?_eq_getElem (by omega), List.getD_eq_getElem?_getD, List.getD_eq_getElem?_getD, List.getElem?_eq_getElem hk', List.getElem?_eq_getElem (by omega)]
  simp
set_option maxRecDepth 100000 in
set_option maxHeartbeats 8000000 in
theorem reportTells_walk (l : List Ac) (ao : Option Addr) (cap : Nat) (n t1 t2 : Int) (x : ByteArray) (w : World) (hg : GlobT w) (h : ActsAt w ao l) (hm : l.length ≤ maxLen) (hxm : x.size ≤ maxLen) :
    Calls Tryz.prog 5 #[.slice ao l.length cap, .int .i64 n, .int .i64 t1, .int .i64 t2, .string x] w fun e w' => e = .returned (.bool true) ∧ Below w.heap.size w w' := by
  have hsm := short_any l ao cap w h hm
  have HG := hidE hg
  have HAT := hidE h
  clear hg hm h
  go_enter Tryz.func5, Tryz.ntmps5
  go_wp2_with fail
  refine hsm.mono ?_
  rintro e w0 ⟨⟨bb, rfl, hbb⟩, hw0⟩
  subst w0
  clear hsm
  cases bb with
  | false =>
    go_wp2
    go_ret
    exact ⟨rfl, Below.refl _ _⟩
  | true =>
    have h140 : l.length ≤ 140 := hbb rfl
    clear hbb
    by_cases hl60 : 60 < l.length
    · have hzz : (60 : Int) < (l.length : Int) := by omega
      go_wp2
      go_ret
      exact ⟨rfl, Below.refl _ _⟩
    have hlz : ¬ (60 : Int) < (l.length : Int) := by omega
    by_cases hx60 : 60 < x.size
    · have hzz : (60 : Int) < (x.size : Int) := by omega
      go_wp2
      go_ret
      exact ⟨rfl, Below.refl _ _⟩
    have hzz : ¬ (60 : Int) < (x.size : Int) := by omega
    obtain ⟨W, hW⟩ : ∃ W, W = (w.alloc (.cells #[.slice none 0 0, .int .i64 0, .int .i64 0] 27)).alloc (.cells #[.slice none 0 0, .int .i64 0, .int .i64 0] 34) := ⟨_, rfl⟩
    have HT0 : Hid (Two W w.heap.size w.heap.size (.slice none 0 0) bkZ (w.heap.size + 1) (.slice none 0 0) bkZ) := by rw [hW]; exact two_new w
    have HB0 : Hid (Below w.heap.size w W) := by rw [hW]; exact ((Below.refl _ _).alloc (Nat.le_refl _) _).alloc (by simp) _
    have HW := hidE hW
    clear hW
    go_wp2_with fail
    rw [← HW.out]
    go_loopw [13] (fun i wr => ∃ (k : Nat) (b : Bk) (v1 v2 : Value), k ≤ l.length ∧ i = .int .i64 k ∧ Hid (Two wr w.heap.size w.heap.size v1 b (w.heap.size + 1) v2 b) ∧ Hid (Inv b ∧ Own b ∧ b.n ≤ k) ∧ Hid (Below w.heap.size w wr)) (fun i _ => l.length - (intOf i).toNat)
    case atStart => exact ⟨0, bkZ, .slice none 0 0, .slice none 0 0, Nat.zero_le _, rfl, HT0, ⟨inv_zero, own_zero, Int.le_refl _⟩, HB0⟩
    case round =>
      clear HT0 HB0
      obtain ⟨k, b, v1, v2, hk, rfl, HT, HI, HB⟩ := hrel
      by_cases hlt : k < l.length
      · have hkz : (k : Int) < (l.length : Int) := by omega
        obtain ⟨ab, off, rfl, hab, hc⟩ := HAT.out.2 (by omega)
        have hew : EvW l[k].e := HAT.out.1 _ (List.getElem_mem hlt)
        have hbk : BkOk b := HI.out.1.ok (by have := HI.out.2.2; omega)
        obtain ⟨y, hy⟩ : ∃ y, y = l[k] := ⟨_, rfl⟩
        have hcw : ∀ j, j < 9 → wr.cell? ⟨ab, off + k * 9 + j, none⟩ = (acC y)[j]? := fun j hj => by
          rw [HB.out.cell (p := ⟨ab, off + k * 9 + j, none⟩) hab, hy]; exact hc k hlt j hj
        rw [← hy] at hew
        have hac := acts_any HT.out hbk HB.out.size (fun W hb => (HG.out.below (HB.out.trans hb)).et) y hew
        have HST : Hid (∀ b', b' = b ∨ StepA b y b' → Inv b' ∧ Own b' ∧ b'.n ≤ ((k + 1 : Nat) : Int)) := fun b' hs => by
          rcases hs with rfl | hs
          · exact ⟨HI.out.1, HI.out.2.1, by have := HI.out.2.2; omega⟩
          · have hi' := inv_step HI.out.1 hew (by have := HI.out.2.2; omega) hs
            exact ⟨hi', own_step HI.out.1 hi' HI.out.2.1 hs, by have := step_n hs; have := HI.out.2.2; omega⟩
        clear hc hy hbk
        obtain ⟨what, id, ⟨id0, item, kind, qty, price, ofI, day⟩⟩ := y
        have q0 := hcw 0 (by omega)
        have q1 := hcw 1 (by omega)
        have q2 := hcw 2 (by omega)
        have q3 := hcw 3 (by omega)
        have q4 := hcw 4 (by omega)
        have q5 := hcw 5 (by omega)
        have q6 := hcw 6 (by omega)
        have q7 := hcw 7 (by omega)
        have q8 := hcw 8 (by omega)
        simp only [acC, List.getElem?_cons_zero, List.getElem?_cons_succ, Nat.add_zero] at q0 q1 q2 q3 q4 q5 q6 q7 q8
        unfold acV at hac
        simp only at hac
        clear hcw
        go_wp2_with fail
        refine hac.mono ?_
        rintro e w2 ⟨rfl, u1, u2, b2, H2, hst, hb2, _⟩
        have HI2 : Hid (Inv b2 ∧ Own b2 ∧ b2.n ≤ ((k + 1 : Nat) : Int)) := HST.out b2 hst
        have HB2 : Hid (Below w.heap.size w w2) := HB.out.trans hb2
        have HT2 : Hid (Two w2 w.heap.size w.heap.size u1 b2 (w.heap.size + 1) u2 b2) := H2
        clear hac q0 q1 q2 q3 q4 q5 q6 q7 q8 H2 hst hb2 HST HI HB HT hew
        go_wp2
        go_roundw
        case rel => exact ⟨k + 1, b2, u1, u2, by omega, by go_num, HT2, HI2, HB2⟩
        case measure => simp [intOf]; omega
      · obtain rfl : k = l.length := by omega
        have hkz : ¬ (l.length : Int) < (l.length : Int) := by omega
        have hvl : b.vs.length ≤ 200 := by have := HI.out.1.full; omega
        have hvl' : b.vs.length ≤ 1000 := by omega
        obtain ⟨hi, ho, hbn⟩ := HI.out
        have hA1 := fun (W : World) (hb : Below wr.heap.size wr W) => reat_any (HT.out.below hb).book hvl' n t1 (up_ewR hi n t1)
        have hA2 := fun (W : World) (hb : Below wr.heap.size wr W) => rat_any (HT.out.below hb).ref hvl n t1 _ (up_is hi ho n t1) (up_ewR hi n t1) ((HG.out.below HB.out).tab.below hb)
        have hD1 := fun (W : World) (hb : Below wr.heap.size wr W) => rediff_any (HT.out.below hb).book hvl' n t1 t2 (up_ewR hi n t1) (up_ewR hi n t2)
        have hD2 := fun (W : World) (hb : Below wr.heap.size wr W) => rdiff_any (HT.out.below hb).ref hvl n t1 t2 _ _ (up_is hi ho n t1) (up_is hi ho n t2) (up_ewR hi n t1) (up_ewR hi n t2) ((HG.out.below HB.out).tab.below hb)
        have hM1 := fun (W : World) (hb : Below wr.heap.size wr W) => remov_any (HT.out.below hb).book hvl' x hxm t2 (of_ewR hi x t2) (of_rtR hi x t2)
        have hM2 := fun (W : World) (hb : Below wr.heap.size wr W) => rmov_any (HT.out.below hb).ref hvl x hxm t2 _ (of_is hi ho x t2) (of_ewR hi x t2) (of_rtR hi x t2) ((HG.out.below HB.out).tab.below hb)
        have hEl : (evOf b x t2).length ≤ 200 := by
          unfold evOf
          refine Nat.le_trans (List.length_filter_le _ _) ?_
          rw [srt_len]
          unfold asOf
          rw [List.length_map]
          exact Nat.le_trans (List.length_filter_le _ _) hvl
        have HEU : Hid (∀ t, stUp b n t = goS stk00 (ordd (evUp b n t))) := fun t => rfl
        have hKL := fun (t : Int) (ks : List ByteArray) (hk : Keys (fun x => (goS stk00 (ordd (evUp b n t)) x).ys ≠ []) ks) => (Nat.le_trans (keys_len hk) (evUp_len b n t) : ks.length ≤ b.vs.length)
        obtain ⟨M1, hM1e⟩ : ∃ M, M = goS stk00 (ordd (evUp b n t1)) := ⟨_, rfl⟩
        obtain ⟨M2, hM2e⟩ : ∃ M, M = goS stk00 (ordd (evUp b n t2)) := ⟨_, rfl⟩
        have hKL1 := hKL t1
        simp only [HEU.out] at hD1
        rw [← hM1e] at hA1 hA2 hKL1
        rw [← hM1e, ← hM2e] at hD1 hD2
        obtain ⟨L, hLe⟩ : ∃ L, L = evOf b x t2 := ⟨_, rfl⟩
        rw [← hLe] at hM1 hM2 hEl
        have HRT : Hid (∀ e ∈ L, Rt e) := by show ∀ e ∈ L, Rt e; rw [hLe]; exact of_rtR hi x t2
        have HA1 := hidE hA1
        have HA2 := hidE hA2
        have HD1 := hidE hD1
        have HD2 := hidE hD2
        have HM1 := hidE hM1
        have HM2 := hidE hM2
        have HKL1 := hidE hKL1
        clear hA1 hA2 hD1 hD2 hM1 hM2 hM1e hM2e hLe hKL hKL1 HEU hi ho hbn HI HT
        obtain ⟨wo, rfl⟩ : ∃ X, X = wr := ⟨_, rfl⟩
        -- COMPARE
        go_wp2_with fail
        refine (HA1.out wo (Below.refl _ _)).mono ?_
        rintro r w1 ⟨u1, ks0, rfl, hks, hown, hb⟩
        obtain ⟨ad1, cp1, hv⟩ := own_lenN hown
        subst hv
        have HBo1 : Hid (Below wo.heap.size wo w1) := hb
        have HOa := hidE hown
        have HKS := hidE hks
        clear hks hown hb
        go_wp2_with fail
        refine (HA2.out w1 HBo1.out).mono ?_
        rintro r w2 ⟨u2, js, rfl, hjs, hown, hb⟩
        obtain ⟨ad2, cp2, hv⟩ := own_lenN hown
        subst hv
        obtain rfl : js = ks0 := row_one hjs.nodup HKS.out.nodup (fun z => (hjs.mem z).trans (HKS.out.mem z).symm) hjs.sorted HKS.out.sorted
        have HBo2 : Hid (Below wo.heap.size wo w2) := HBo1.out.trans (hb.mono HBo1.out.size)
        have HO1 := hidE (own_below HOa.out hb (Nat.le_refl _))
        have HO2 := hidE hown
        clear hjs hown hb HOa HKS
        go_wp2_with fail
        go_loopw [16] (fun i wr => ∃ k : Nat, k ≤ js.length ∧ i = .int .i64 k ∧ Hid (∃ q, wr = w2.drewN q)) (fun i _ => js.length - (intOf i).toNat)
        case atStart => exact ⟨0, Nat.zero_le _, rfl, ⟨0, rfl⟩⟩
        case round =>
          obtain ⟨k, hk, rfl, HDW⟩ := hrel
          by_cases hlt : k < js.length
          · have hkz : (k : Int) < (js.length : Int) := by omega
            have hbd : Below w2.heap.size w2 wr := by obtain ⟨mm, e⟩ := HDW.out; rw [e]; exact ⟨rfl, rfl, rfl, Nat.le_refl _, fun _ _ => rfl⟩
            rcases own_form HO1.out with ⟨_, x2, _⟩ | ⟨ga, ca, x1, _, hga, hc1, hc2⟩
            · rw [x2] at hlt; exact absurd hlt (Nat.not_lt_zero _)
            simp only [Value.slice.injEq] at x1
            obtain ⟨rfl, _, rfl⟩ := x1
            unfold maxLen at hc2
            rcases own_form HO2.out with ⟨_, x2, _⟩ | ⟨gb, cb, x1, _, hgb, _⟩
            · rw [x2] at hlt; exact absurd hlt (Nat.not_lt_zero _)
            simp only [Value.slice.injEq] at x1
            obtain ⟨rfl, _, rfl⟩ := x1
            have p0 := below_cell hbd (((own_cell (m := 3) (fun _ => rfl) HO1.out k 0 hlt (by omega)).1).trans rfl)
            have p1 := below_cell hbd (((own_cell (m := 3) (fun _ => rfl) HO1.out k 1 hlt (by omega)).1).trans rfl)
            have p2 := below_cell hbd (((own_cell (m := 3) (fun _ => rfl) HO1.out k 2 hlt (by omega)).1).trans rfl)
            have r0 := below_cell hbd (((own_cell (m := 3) (fun _ => rfl) HO2.out k 0 hlt (by omega)).1).trans rfl)
            have r1 := below_cell hbd (((own_cell (m := 3) (fun _ => rfl) HO2.out k 1 hlt (by omega)).1).trans rfl)
            have r2 := below_cell hbd (((own_cell (m := 3) (fun _ => rfl) HO2.out k 2 hlt (by omega)).1).trans rfl)
            simp only [Nat.add_zero] at p0 p1 p2 r0 r1 r2
            generalize js[k] = it at p0 p1 p2 r0 r1 r2
            generalize sumQ (M1 it).ys = qq at p1 r1
            generalize sumV (M1 it).ys = vv at p2 r2
            have hne := neq_rho it qq vv
            have mixed : Tryz.prog.follows .mixedOrders = true := by kernel_rfl
            clear hbd
            go_wp2_with fail
            go_quiet (fail)
            go_wp2
            go_roundw
            case rel =>
              obtain ⟨mm, e⟩ := HDW.out
              exact ⟨k + 1, by omega, by go_num, ⟨mm + nq, by rw [e, World.drewN_drewN]⟩⟩
            case measure => simp [intOf]; omega
          · obtain rfl : k = js.length := by omega
            have hkz : ¬ (js.length : Int) < (js.length : Int) := by omega
            have hbd : Below w2.heap.size w2 wr := by obtain ⟨mm, e⟩ := HDW.out; rw [e]; exact ⟨rfl, rfl, rfl, Nat.le_refl _, fun _ _ => rfl⟩
            have HBz2 : Hid (Below wo.heap.size wo wr) := HBo2.out.trans (hbd.mono HBo2.out.size)
            clear hbd HDW HO1 HO2 HBo1 HBo2
            obtain ⟨wz2, rfl⟩ : ∃ X, X = wr := ⟨_, rfl⟩
            go_wp2_with fail
            refine (HD1.out wz2 HBz2.out).mono ?_
            rintro r w3 ⟨u3, ks0, rfl, hks, hown, hb⟩
            obtain ⟨ad3, cp3, hv⟩ := own_lenN hown
            subst hv
            have HBo3 : Hid (Below wo.heap.size wo w3) := HBz2.out.trans (hb.mono HBz2.out.size)
            have HOa := hidE hown
            have HKS := hidE hks
            clear hks hown hb
            go_wp2_with fail
            refine (HD2.out w3 HBo3.out).mono ?_
            rintro r w4 ⟨u4, cs, rfl, hjs, hown, hb⟩
            obtain ⟨ad4, cp4, hv⟩ := own_lenN hown
            subst hv
            obtain rfl : cs = ks0 := row_one hjs.nodup HKS.out.nodup (fun z => (hjs.mem z).trans (HKS.out.mem z).symm) hjs.sorted HKS.out.sorted
            have HBo4 : Hid (Below wo.heap.size wo w4) := HBo3.out.trans (hb.mono HBo3.out.size)
            have HO3 := hidE (own_below HOa.out hb (Nat.le_refl _))
            have HO4 := hidE hown
            clear hjs hown hb HOa HKS
            go_wp2_with fail
            go_loopw [19] (fun i wr => ∃ k : Nat, k ≤ cs.length ∧ i = .int .i64 k ∧ Hid (∃ q, wr = w4.drewN q)) (fun i _ => cs.length - (intOf i).toNat)
            case atStart => exact ⟨0, Nat.zero_le _, rfl, ⟨0, rfl⟩⟩
            case round =>
              obtain ⟨k, hk, rfl, HDW⟩ := hrel
              by_cases hlt : k < cs.length
              · have hkz : (k : Int) < (cs.length : Int) := by omega
                have hbd : Below w4.heap.size w4 wr := by obtain ⟨mm, e⟩ := HDW.out; rw [e]; exact ⟨rfl, rfl, rfl, Nat.le_refl _, fun _ _ => rfl⟩
                rcases own_form HO3.out with ⟨_, x2, _⟩ | ⟨ga, ca, x1, _, hga, hc1, hc2⟩
                · rw [x2] at hlt; exact absurd hlt (Nat.not_lt_zero _)
                simp only [Value.slice.injEq] at x1
                obtain ⟨rfl, _, rfl⟩ := x1
                unfold maxLen at hc2
                rcases own_form HO4.out with ⟨_, x2, _⟩ | ⟨gb, cb, x1, _, hgb, _⟩
                · rw [x2] at hlt; exact absurd hlt (Nat.not_lt_zero _)
                simp only [Value.slice.injEq] at x1
                obtain ⟨rfl, _, rfl⟩ := x1
                have p0 := below_cell hbd (((own_cell (m := 3) (fun _ => rfl) HO3.out k 0 hlt (by omega)).1).trans rfl)
                have p1 := below_cell hbd (((own_cell (m := 3) (fun _ => rfl) HO3.out k 1 hlt (by omega)).1).trans rfl)
                have p2 := below_cell hbd (((own_cell (m := 3) (fun _ => rfl) HO3.out k 2 hlt (by omega)).1).trans rfl)
                have r0 := below_cell hbd (((own_cell (m := 3) (fun _ => rfl) HO4.out k 0 hlt (by omega)).1).trans rfl)
                have r1 := below_cell hbd (((own_cell (m := 3) (fun _ => rfl) HO4.out k 1 hlt (by omega)).1).trans rfl)
                have r2 := below_cell hbd (((own_cell (m := 3) (fun _ => rfl) HO4.out k 2 hlt (by omega)).1).trans rfl)
                simp only [Nat.add_zero] at p0 p1 p2 r0 r1 r2
                generalize cs[k] = it at p0 p1 p2 r0 r1 r2
                generalize dfQ M2 M1 it = qq at p1 r1
                generalize dfV M2 M1 it = vv at p2 r2
                have hne := neq_rho it qq vv
                have mixed : Tryz.prog.follows .mixedOrders = true := by kernel_rfl
                clear hbd
                go_wp2_with fail
                go_quiet (fail)
                go_wp2
                go_roundw
                case rel =>
                  obtain ⟨mm, e⟩ := HDW.out
                  exact ⟨k + 1, by omega, by go_num, ⟨mm + nq, by rw [e, World.drewN_drewN]⟩⟩
                case measure => simp [intOf]; omega
              · obtain rfl : k = cs.length := by omega
                have hkz : ¬ (cs.length : Int) < (cs.length : Int) := by omega
                have hbd : Below w4.heap.size w4 wr := by obtain ⟨mm, e⟩ := HDW.out; rw [e]; exact ⟨rfl, rfl, rfl, Nat.le_refl _, fun _ _ => rfl⟩
                have HBz4 : Hid (Below wo.heap.size wo wr) := HBo4.out.trans (hbd.mono HBo4.out.size)
                clear hbd HDW HO3 HO4 HBo3 HBo4
                obtain ⟨wz4, rfl⟩ : ∃ X, X = wr := ⟨_, rfl⟩
                go_wp2_with fail
                refine (HM1.out wz4 HBz4.out).mono ?_
                rintro r w5 ⟨u5, rfl, hown, hb⟩
                obtain ⟨ad5, cp5, hv⟩ := own_lenN hown
                subst hv
                have HBo5 : Hid (Below wo.heap.size wo w5) := HBz4.out.trans (hb.mono HBz4.out.size)
                have HOa := hidE hown
                clear hown hb
                go_wp2_with fail
                refine (HM2.out w5 HBo5.out).mono ?_
                rintro r w6 ⟨u6, rfl, hown, hb⟩
                obtain ⟨ad6, cp6, hv⟩ := own_lenN hown
                subst hv
                have HBo6 : Hid (Below wo.heap.size wo w6) := HBo5.out.trans (hb.mono HBo5.out.size)
                have hrowA := own_below HOa.out hb (Nat.le_refl _)
                have HMF := hidE (movD_flat (x := x) HRT.out)
                rw [HMF.out] at hrowA hown
                have HO5 : Hid (w6.ownsRow wz4.heap.size 116 14 (.slice ad5 L.length cp5) L.length ((List.range L.length).flatMap (movD L x))) := hrowA
                have HO6 : Hid (w6.ownsRow w5.heap.size 118 14 (.slice ad6 L.length cp6) L.length ((List.range L.length).flatMap (movD L x))) := hown
                clear hown hb HOa hrowA HMF
                go_wp2_with fail
                go_loopw [22] (fun i wr => ∃ k : Nat, k ≤ L.length ∧ i = .int .i64 k ∧ Hid (∃ q, wr = w6.drewN q)) (fun i _ => L.length - (intOf i).toNat)
                case atStart => exact ⟨0, Nat.zero_le _, rfl, ⟨0, rfl⟩⟩
                case round =>
                  obtain ⟨k, hk, rfl, HDW⟩ := hrel
                  by_cases hlt : k < L.length
                  · have hkz : (k : Int) < (L.length : Int) := by omega
                    go_upto_region 32 with fail
                    have hbd : Below w6.heap.size w6 wr := by obtain ⟨mm, e⟩ := HDW.out; rw [e]; exact ⟨rfl, rfl, rfl, Nat.le_refl _, fun _ _ => rfl⟩
                    rcases own_form HO5.out with ⟨_, x2, _⟩ | ⟨ga, ca, x1, _, hga, hc1, hc2⟩
                    · rw [x2] at hlt; exact absurd hlt (Nat.not_lt_zero _)
                    simp only [Value.slice.injEq] at x1
                    obtain ⟨rfl, _, rfl⟩ := x1
                    unfold maxLen at hc2
                    rcases own_form HO6.out with ⟨_, x2, _⟩ | ⟨gb, cb, x1, _, hgb, _⟩
                    · rw [x2] at hlt; exact absurd hlt (Nat.not_lt_zero _)
                    simp only [Value.slice.injEq] at x1
                    obtain ⟨rfl, _, rfl⟩ := x1
                    have hpc : ∀ j, j < 14 → wr.cell? ⟨ga, k * 14 + j, none⟩ = (movD L x k)[j]? := fun j hj => by
                      have h1 := (own_cell (movD_len L x) HO5.out k j (by rw [List.length_range]; exact hlt) hj).1
                      rw [List.getElem_range] at h1
                      exact (hbd.cell (p := ⟨ga, k * 14 + j, none⟩) hga).trans h1
                    have hrc : ∀ j, j < 14 → wr.cell? ⟨gb, k * 14 + j, none⟩ = (movD L x k)[j]? := fun j hj => by
                      have h1 := (own_cell (movD_len L x) HO6.out k j (by rw [List.length_range]; exact hlt) hj).1
                      rw [List.getElem_range] at h1
                      exact (hbd.cell (p := ⟨gb, k * 14 + j, none⟩) hgb).trans h1
                    unfold movD at hpc hrc
                    generalize L.getD k evD0 = ev at hpc hrc
                    generalize (goL stk00 (ordd (L.take (k + 1)))).getD k linD0 = ln at hpc hrc
                    generalize sumQ (goS stk00 (ordd (L.take (k + 1))) x).ys = qq at hpc hrc
                    generalize sumV (goS stk00 (ordd (L.take (k + 1))) x).ys = vv at hpc hrc
                    obtain ⟨id, item, kind, qty, price, ofI, day⟩ := ev
                    obtain ⟨l0, l1, l2, l3, l4⟩ := ln
                    have p0 := hpc 0 (by omega)
                    have r0 := hrc 0 (by omega)
                    have p1 := hpc 1 (by omega)
                    have r1 := hrc 1 (by omega)
                    have p2 := hpc 2 (by omega)
                    have r2 := hrc 2 (by omega)
                    have p3 := hpc 3 (by omega)
                    have r3 := hrc 3 (by omega)
                    have p4 := hpc 4 (by omega)
                    have r4 := hrc 4 (by omega)
                    have p5 := hpc 5 (by omega)
                    have r5 := hrc 5 (by omega)
                    have p6 := hpc 6 (by omega)
                    have r6 := hrc 6 (by omega)
                    have p7 := hpc 7 (by omega)
                    have r7 := hrc 7 (by omega)
                    have p8 := hpc 8 (by omega)
                    have r8 := hrc 8 (by omega)
                    have p9 := hpc 9 (by omega)
                    have r9 := hrc 9 (by omega)
                    have p10 := hpc 10 (by omega)
                    have r10 := hrc 10 (by omega)
                    have p11 := hpc 11 (by omega)
                    have r11 := hrc 11 (by omega)
                    have p12 := hpc 12 (by omega)
                    have r12 := hrc 12 (by omega)
                    have p13 := hpc 13 (by omega)
                    have r13 := hrc 13 (by omega)
                    simp only [evC, linC, List.cons_append, List.nil_append, List.getElem?_cons_zero, List.getElem?_cons_succ, Nat.add_zero] at p0 r0 p1 r1 p2 r2 p3 r3 p4 r4 p5 r5 p6 r6 p7 r7 p8 r8 p9 r9 p10 r10 p11 r11 p12 r12 p13 r13
                    have hne := neq_evT id item kind qty price ofI day
                    have hnl := neq_linT l0 l1 l2 l3 l4
                    clear hpc hrc
                    have mixed : Tryz.prog.follows .mixedOrders = true := by kernel_rfl
                    clear hbd
                    go_quiet (fail)
                    go_wp2
                    go_roundw
                    case rel =>
                      obtain ⟨mm, e⟩ := HDW.out
                      exact ⟨k + 1, by omega, by go_num, ⟨mm + nq, by rw [e, World.drewN_drewN]⟩⟩
                    case measure => simp [intOf]; omega
                  · obtain rfl : k = L.length := by omega
                    have hkz : ¬ (L.length : Int) < (L.length : Int) := by omega
                    have hbd : Below w6.heap.size w6 wr := by obtain ⟨mm, e⟩ := HDW.out; rw [e]; exact ⟨rfl, rfl, rfl, Nat.le_refl _, fun _ _ => rfl⟩
                    have HBz6 : Hid (Below wo.heap.size wo wr) := HBo6.out.trans (hbd.mono HBo6.out.size)
                    clear hbd HDW HO5 HO6 HBo5 HBo6
                    obtain ⟨wz6, rfl⟩ : ∃ X, X = wr := ⟨_, rfl⟩
                    have HF : Hid (Below w.heap.size w wz6) := HB.out.trans (HBz6.out.mono HB.out.size)
                    go_wp2
                    go_ret
                    exact ⟨rfl, HF.out⟩
end Go.Proofs.YtcfgacdcgljbaaaGreatDoor
