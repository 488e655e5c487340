/- The walk of tallymankeep.ReportMoves. -/
import Derived.Test.YtcfgacdcgljbaaaGreatReMvM
import Derived.Test.YtcfgacdcgljbaaaGreatConsM
import Derived.Test.YtcfgacdcgljbaaaGreatBnB
import Derived.Test.YtcfgacdcgljbaaaGreatReIdx
import Derived.Test.YtcfgacdcgljbaaaGreatKpItems
import Derived.Test.YtcfgacdcgljbaaaGreatReMade
import Derived.Test.YtcfgacdcgljbaaaGreatReRep
import Derived.Deep.DeepCutAuto
import Derived.Deep.CutBlock
import Derived.WalkSmall
namespace Go.Proofs.YtcfgacdcgljbaaaGreat
open Go.RowKit Go.Maps Go.Shelf
/-- A number in a cell that a pointer shows. -/
def atP (u : Value) (wr : World) : Nat := match u with
  | .pointer (some a) => match wr.cell? a with
    | some (.int _ i) => i.toNat
    | _ => 0
  | _ => 0
theorem L_len (b : Bk) (t : Int) : (srt (asOf b (tOf b t))).length ≤ b.vs.length := by
  rw [srt_len]
  unfold asOf
  rw [List.length_map]
  exact List.length_filter_le _ _
theorem L_mem {b : Bk} {t : Int} {e : Ev} (h : e ∈ srt (asOf b (tOf b t))) : ∃ v ∈ b.vs, v.ev = e := by
  have h1 := (srt_perm _).mem_iff.1 h
  unfold asOf at h1
  obtain ⟨v, hv, rfl⟩ := List.mem_map.1 h1
  exact ⟨v, (List.mem_filter.1 hv).1, rfl⟩
set_option maxRecDepth 40000 in
set_option maxHeartbeats 32000000 in
theorem moves_walk (l : List Ac) (ao : Option Addr) (cap : Nat) (n t : Int) (w : World) (h : ActsAt w ao l) (hm : l.length ≤ maxLen) :
    Calls Tryz.prog 3 #[.slice ao l.length cap, .int .i64 n, .int .i64 t] w fun e w' => e = .returned (.bool true) ∧ Below w.heap.size w w' := by
  have hsm := small_any l ao cap w h hm
  have HA0 := hidE h
  have mixed : Tryz.prog.follows .mixedOrders = true := by kernel_rfl
  clear h hm
  go_enter Tryz.func3, Tryz.ntmps3
  go_wp2_with fail
  refine hsm.mono ?_
  rintro e wx ⟨⟨bb, rfl, hbb⟩, rfl⟩
  clear hsm
  cases bb with
  | false =>
    go_wp2
    go_ret
    exact ⟨rfl, Below.refl _ _⟩
  | true =>
    have h40 : l.length ≤ 40 := hbb rfl
    clear hbb
    go_wp2_with fail
    refine (reported_any _).mono ?_
    rintro e w1 ⟨rfl, hb1⟩
    have HMK := made_any l ao cap w1 (HA0.out.below hb1 (Nat.le_refl _)) h40
    have B1 := hidE hb1
    clear HA0 hb1
    go_wp2_with fail
    refine HMK.mono ?_
    rintro e w2 ⟨b, sv, rfl, hbk, hinv, hown, hbn, hb2⟩
    obtain ⟨pb, hpb⟩ : ∃ k, k = w1.heap.size := ⟨_, rfl⟩
    rw [← hpb] at hbk ⊢
    have B2 : Hid (Below wx.heap.size wx w2) := B1.out.trans (hb2.mono B1.out.size)
    have hfull := hinv.full
    have C3 := as_any hbk (by omega) t
    have HBK2 := hidE hbk
    have HINV := hidE hinv
    have HOWN := hidE hown
    clear HMK hbk hb2 B1 hpb hinv hown
    go_wp2_with fail
    refine C3.mono ?_
    rintro e w3 ⟨v3, rfl, ho3, hb3⟩
    obtain ⟨L, hL⟩ : ∃ L, L = srt (asOf b (tOf b t)) := ⟨_, rfl⟩
    have hLl : L.length ≤ 120 := by rw [hL]; have := L_len b t; omega
    have HLM : Hid (∀ e ∈ L, ∃ v ∈ b.vs, v.ev = e) := fun e he => L_mem (by rw [← hL]; exact he)
    have HL := hidE hL
    rw [← hL] at ho3
    obtain ⟨ad3, cp3, hv3⟩ := own_lenN ho3
    subst hv3
    have hec : EvsC w3 ad3 L := by
      obtain ⟨ao', cap', hv, hc⟩ := (EvsAt.of_own ho3).toC
      simp only [Value.slice.injEq] at hv
      obtain ⟨rfl, _, rfl⟩ := hv
      exact hc
    have C4 := items_any L ad3 cp3 w3 hec (by omega)
    have HBK3 := hidE (HBK2.out.below hb3)
    have B3 : Hid (Below wx.heap.size wx w3) := B2.out.trans (hb3.mono B2.out.size)
    clear C3 ho3 hb3 hec HBK2 B2 hL
    go_wp2_with fail
    refine C4.mono ?_
    rintro e w4 ⟨v4, rfl, ho4, hb4⟩
    obtain ⟨xs, hxs⟩ : ∃ xs, xs = itsL L := ⟨_, rfl⟩
    have hxl : xs.length ≤ 120 := by rw [hxs]; have := its_len L; omega
    have HXM : Hid (∀ x ∈ xs, ∃ e ∈ L, e.item = x) := fun x hx => its_mem (by rw [← hxs]; exact hx)
    rw [← hxs] at ho4
    obtain ⟨ad4, cp4, hv4⟩ := own_lenN ho4
    subst hv4
    obtain ⟨w5, hw5⟩ : ∃ W, W = w4.alloc (.cells #[.slice ad4 xs.length cp4] 27) := ⟨_, rfl⟩
    have hb5 : Below w4.heap.size w4 w5 := by rw [hw5]; exact (Below.refl _ _).alloc (Nat.le_refl _) _
    have ks5 : w5.cell? ⟨w4.heap.size, 0, none⟩ = some (.slice ad4 xs.length cp4) := by rw [hw5]; simp
    obtain ⟨bs, hbs⟩ : ∃ k, k = w4.heap.size := ⟨_, rfl⟩
    rw [← hbs] at ks5
    have HO5 := hidE (own_below (B := 0) ho4 hb5 (Nat.zero_le _))
    have HBK5 := hidE ((HBK3.out.below hb4).below hb5)
    have B4 := B3.out.trans (hb4.mono B3.out.size)
    have B5 : Hid (Below wx.heap.size wx w5) := B4.trans (hb5.mono B4.size)
    have C6 := reat_any HBK5.out (by omega) n t (fun e he => by obtain ⟨v, hv, rfl⟩ := L_mem (List.mem_filter.1 he).1; exact HINV.out.ew v hv)
    have HW5 := hidE hw5
    have HBS := hidE hbs
    have hbsl : bs < w5.heap.size := World.block_lt_of_cell? _ _ ks5
    clear C4 ho4 hb4 hb5 HBK3 B3 B4 hxs hw5 hbs
    go_wp2_with fail
    rw [← HW5.out, ← HBS.out]
    refine C6.mono ?_
    rintro e w6 ⟨v6, ks, rfl, hks, ho6, hb6⟩
    obtain ⟨ad6, cp6, hv6⟩ := own_lenN ho6
    subst hv6
    have hkl : ks.length ≤ 120 := by
      have h1 := keys_len hks
      have h2 := evUp_len b n t
      omega
    obtain ⟨w7, hw7⟩ : ∃ W, W = w6.alloc (.cells #[.int .i64 0] 3) := ⟨_, rfl⟩
    have hb7 : Below w6.heap.size w6 w7 := by rw [hw7]; exact (Below.refl _ _).alloc (Nat.le_refl _) _
    have ki7 : w7.cell? ⟨w6.heap.size, 0, none⟩ = some (.int .i64 0) := by rw [hw7]; simp
    have kf7 : w7.frozen? ⟨w6.heap.size, 0, none⟩ = false := by rw [hw7]; simp
    have HBK6 := hidE (HBK5.out.below hb6)
    have HO6 := hidE (own_below HO5.out hb6 (Nat.le_refl _))
    have HOH := hidE (own_below (B := 0) ho6 (Below.refl _ _) (Nat.zero_le _))
    have HKS := hidE hks
    have KS6 : Hid (w6.cell? ⟨bs, 0, none⟩ = some (.slice ad4 xs.length cp4)) := (hb6.cell (p := ⟨bs, 0, none⟩) hbsl).trans ks5
    have B6 : Hid (Below wx.heap.size wx w6) := B5.out.trans (hb6.mono B5.out.size)
    have hbsl6 : bs < w6.heap.size := Nat.lt_of_lt_of_le hbsl hb6.size
    have KI7 := hidE ki7
    have KF7 := hidE kf7
    have HW7 := hidE hw7
    have HB7 := hidE hb7
    clear C6 HW5 HBS hks ho6 hb6 hb7 HBK5 HO5 ks5 B5 ki7 kf7 hw7 hbsl
    go_wp2_with fail
    rw [← HW7.out]
    go_loopw [10] (fun u wr => ∃ (k bi : Nat), k ≤ xs.length ∧ u = .pointer (some ⟨bi, 0, none⟩) ∧ Hid (wr.cell? ⟨bi, 0, none⟩ = some (.int .i64 k)) ∧ Hid (wr.frozen? ⟨bi, 0, none⟩ = false) ∧ Hid (w6.heap.size ≤ bi) ∧ Hid (Below w6.heap.size w6 wr)) (fun u wr => xs.length - atP u wr)
    case atStart => exact ⟨0, w6.heap.size, Nat.zero_le _, rfl, KI7, KF7, Nat.le_refl _, HB7⟩
    case round =>
      obtain ⟨k, bi, hk, rfl, KI, KF, HBI, HB⟩ := hrel
      obtain ⟨wo, hwo⟩ : ∃ X, X = wr := ⟨_, rfl⟩
      rw [← hwo] at KI KF HB ⊢
      clear hwo
      have ki := KI.out
      have ks0 := (HB.out.cell (p := ⟨bs, 0, none⟩) hbsl6).trans KS6.out
      have HMS : Hid (xs.length - atP (.pointer (some ⟨bi, 0, none⟩)) wo = xs.length - k) := by
        show _ = _
        unfold atP
        simp only [KI.out]
        rfl
      by_cases hlt : k < xs.length
      · rcases own_form HO6.out with ⟨_, e2, _⟩ | ⟨g, cp, e1, _, hgl, _⟩
        · rw [e2] at hlt; exact absurd hlt (Nat.not_lt_zero _)
        simp only [Value.slice.injEq] at e1
        obtain ⟨rfl, _, rfl⟩ := e1
        obtain ⟨x, hx⟩ : ∃ x, x = xs[k] := ⟨_, rfl⟩
        have kx := (HB.out.cell (p := ⟨g, k, none⟩) hgl).trans (by simpa [strC] using (own_cell strC_len HO6.out k 0 hlt (by omega)).1)
        rw [← hx] at kx
        have hxm : x ∈ xs := by rw [hx]; exact List.getElem_mem hlt
        have hxz : x.size ≤ maxLen := by
          obtain ⟨e, he, rfl⟩ := HXM.out x hxm
          obtain ⟨v, hv, rfl⟩ := HLM.out e he
          have h1 := (HINV.out.rt v hv).1.1.2
          rw [eba_len] at h1
          unfold maxLen; omega
        have hrow := row_of HINV.out HOWN.out x t
        have hEl : (evOf b x t).length ≤ 120 := by
          unfold evOf
          have := List.length_filter_le (fun e : Ev => decide (e.item = x)) (srt (asOf b (tOf b t)))
          have := L_len b t
          omega
        have C8 := remov_any (HBK6.out.below HB.out) (by omega) x hxz t (fun e he => by obtain ⟨v, hv, rfl⟩ := L_mem (List.mem_filter.1 he).1; exact HINV.out.ew v hv) hrow.rt
        have HDAY := hidE (st_day HINV.out HOWN.out x n t)
        obtain ⟨E, hE⟩ : ∃ E, E = evOf b x t := ⟨_, rfl⟩
        rw [← hE] at hrow hEl C8 HDAY
        have HROW := hidE hrow
        have HX : Hid (xs[k] = x) := hx.symm
        clear hE hrow hx
        go_wp2_with fail
        refine C8.mono ?_
        rintro e w8 ⟨v8, rfl, ho8, hb8⟩
        obtain ⟨ad8, cp8, hv8⟩ := own_lenN ho8
        subst hv8
        have HO8 := hidE ho8
        have HB8 := hidE hb8
        have HOF : Hid (w8.ownsRow wo.heap.size 40 14 (.slice ad8 E.length cp8) E.length ((List.range E.length).flatMap (movF E x))) := by
          show World.ownsRow _ _ _ _ _ _ _
          rw [← mov_flat HROW.out]
          exact ho8
        clear C8 ho8 hb8 HO8
        go_wp2_with fail
        go_loopw [12, 13, 14, 15, 16] (fun sq sv' dq dv si wr => ∃ j : Nat, j ≤ E.length ∧ si = .int .i64 j ∧ sq = .int .i64 (sumQ (stE E x j).ys) ∧ sv' = .int .i64 (sumV (stE E x j).ys) ∧ dq = .int .i64 (sumQ (dyE E x n j).ys) ∧ dv = .int .i64 (sumV (dyE E x n j).ys) ∧ Hid (Below w8.heap.size w8 wr)) (fun _ _ _ _ si _ => E.length - (intOf si).toNat)
        case atStart => exact ⟨0, Nat.zero_le _, rfl, rfl, rfl, rfl, rfl, Below.refl _ _⟩
        case round =>
          obtain ⟨j, hj, rfl, rfl, rfl, rfl, rfl, HBj⟩ := hrel
          obtain ⟨wi, hwi⟩ : ∃ X, X = wr := ⟨_, rfl⟩
          rw [← hwi] at HBj ⊢
          clear hwi
          have hszj := HBj.out.size
          by_cases hjl : j < E.length
          · rcases own_form HOF.out with ⟨_, e2, _⟩ | ⟨g8, cp, e1, hg8B, hg8, _⟩
            · rw [e2] at hjl; exact absurd hjl (Nat.not_lt_zero _)
            simp only [Value.slice.injEq] at e1
            obtain ⟨rfl, _, rfl⟩ := e1
            have hcw : ∀ (a : Nat), a < E.length → ∀ i, i < 14 → wi.cell? ⟨g8, a * 14 + i, none⟩ = (movF E x a)[i]? := fun a ha i hi => by
              have h1 := (own_cell (movF_len E x) HOF.out a i (by rw [List.length_range]; exact ha) hi).1
              rw [List.getElem_range] at h1
              exact (HBj.out.cell (p := ⟨g8, a * 14 + i, none⟩) hg8).trans h1
            have HCW := hidE hcw
            have hej : E.getD j ev00 = E[j] := by rw [List.getD_eq_getElem?_getD, List.getElem?_eq_getElem hjl]; rfl
            have hst := HROW.out.step hjl
            have hrt := HROW.out.rt E[j] (List.getElem_mem hjl)
            have hok := HROW.out.ok j
            have hok1 := HROW.out.ok (j + 1)
            have hq := doE_q hok hrt.2.2
            have hv := (doE_val hok hrt.2.2).1
            have hdy := HROW.out.dy hjl n
            have HLT : Hid (∀ i, i + 1 = j → cmpE (E.getD i ev00) E[j] < 0) := fun i hi => by
              subst hi
              have e : E.getD i ev00 = E[i] := by rw [List.getD_eq_getElem?_getD, List.getElem?_eq_getElem (by omega)]; rfl
              rw [e]; exact HROW.out.lt hjl
            have bq := st_bd (hok.more (Nat.le_trans hEl (by omega)))
            have bq1 := st_bd (hok1.more (Nat.le_trans hEl (by omega)))
            have hm0 := hcw j hjl
            unfold movF at hm0
            rw [hej] at hm0
            obtain ⟨e, he⟩ : ∃ e, e = E[j] := ⟨_, rfl⟩
            rw [← he] at hst hrt hq hv hdy HLT hm0
            obtain ⟨y, hy⟩ : ∃ y, y = (doE (stE E x j) e).2 := ⟨_, rfl⟩
            rw [← hst.1, ← hy] at hq hv
            rw [← hy] at hm0
            have HDY := hidE hdy
            obtain ⟨Q, hQ⟩ : ∃ q, q = sumQ (stE E x j).ys := ⟨_, rfl⟩
            obtain ⟨V, hV⟩ : ∃ q, q = sumV (stE E x j).ys := ⟨_, rfl⟩
            obtain ⟨Q1, hQ1⟩ : ∃ q, q = sumQ (stE E x (j + 1)).ys := ⟨_, rfl⟩
            obtain ⟨V1, hV1⟩ : ∃ q, q = sumV (stE E x (j + 1)).ys := ⟨_, rfl⟩
            have HQ1 := hidE hQ1
            have HV1 := hidE hV1
            rw [← hQ, ← hV] at bq
            rw [← hQ1, ← hV1] at bq1 hm0
            rw [← hQ, ← hQ1] at hq
            rw [← hV, ← hV1] at hv
            rw [← hQ, ← hV]
            have hbq := bq.2.2.2.1
            have hbq0 := bq.1
            have hbq2 := bq.2.1
            have hbq3 := bq.2.2.1
            have hc1 := bq1.2.2.2.1
            have hc0 := bq1.1
            have hc2 := bq1.2.1
            have hc3 := bq1.2.2.1
            have HK := hidE hrt.2.2
            have HQE := hidE hq
            have HVE := hidE hv
            clear hcw hej hst hrt hok hok1 hq hv hdy bq bq1 he hy hQ hV hQ1 hV1
            obtain ⟨id, item, kind, qty, price, ofI, day⟩ := e
            obtain ⟨y0, y1, y2, y3, y4⟩ := y
            have q0 := hm0 0 (by omega)
            have q1 := hm0 1 (by omega)
            have q2 := hm0 2 (by omega)
            have q3 := hm0 3 (by omega)
            have q4 := hm0 4 (by omega)
            have q5 := hm0 5 (by omega)
            have q6 := hm0 6 (by omega)
            have q7 := hm0 7 (by omega)
            have q8 := hm0 8 (by omega)
            have q9 := hm0 9 (by omega)
            have q10 := hm0 10 (by omega)
            have q11 := hm0 11 (by omega)
            have q12 := hm0 12 (by omega)
            have q13 := hm0 13 (by omega)
            simp only [evC, linC, List.cons_append, List.nil_append, List.getElem?_cons_zero, List.getElem?_cons_succ, Nat.add_zero] at q0 q1 q2 q3 q4 q5 q6 q7 q8 q9 q10 q11 q12 q13
            obtain ⟨W1, hW1⟩ : ∃ W, W = wi.alloc (.cells #[.int .i64 id, .string item, .int .i64 kind, .int .i64 qty, .int .i64 price, .int .i64 ofI, .int .i64 day, .int .i64 y0, .int .i64 y1, .int .i64 y2, .int .i64 y3, .bool y4, .int .i64 Q1, .int .i64 V1] 40) := ⟨_, rfl⟩
            have hbW : Below wi.heap.size wi W1 := by rw [hW1]; exact (Below.refl _ _).alloc (Nat.le_refl _) _
            have hcX : ∀ i, i < 14 → W1.cell? ⟨wi.heap.size, i, none⟩ = ([.int .i64 id, .string item, .int .i64 kind, .int .i64 qty, .int .i64 price, .int .i64 ofI, .int .i64 day, .int .i64 y0, .int .i64 y1, .int .i64 y2, .int .i64 y3, .bool y4, .int .i64 Q1, .int .i64 V1] : List Value)[i]? := fun i hi => by
              rw [hW1, World.cell?_alloc_at _ _ _ _ rfl]; simp
            have hs1 : W1.heap.size = wi.heap.size + 1 := by rw [hW1]; simp
            have HW1 := hidE hW1
            have HCX := hidE hcX
            have HBW := hidE hbW
            have HS1 := hidE hs1
            clear hm0 hW1 hcX hbW hs1
            go_upto_block 4 with fail
            rw [← HW1.out]
            obtain ⟨X, hX⟩ : ∃ X, X = wi.heap.size := ⟨_, rfl⟩
            rw [← hX] at HCX HS1 ⊢
            have HX0 := hidE hX
            clear q0 q1 q2 q3 q4 q5 q6 q7 q8 q9 q10 q11 q12 q13 hX
            have c2 := HCX.out 2 (by omega)
            have c3 := HCX.out 3 (by omega)
            have c8 := HCX.out 8 (by omega)
            have c9 := HCX.out 9 (by omega)
            have c11 := HCX.out 11 (by omega)
            simp only [List.getElem?_cons_zero, List.getElem?_cons_succ] at c2 c3 c8 c9 c11
            go_cut [12, 13] (fun s12 s13 wx => s12 = .int .i64 Q1 ∧ s13 = .int .i64 V1 ∧ Hid (Below W1.heap.size W1 wx))
            case first =>
              rcases HK.out with ⟨k1, a1, a2, a3⟩ | ⟨k1, a1, a2, a3⟩ | ⟨k1, a1, a2, a3⟩ | ⟨k1, a1, a2, a3⟩
              · simp only at k1 a1 a2 a3
                subst k1
                have e1 : Q1 = Q + qty := by rw [HQE.out]; simp [mvQ]
                have e2 : V1 = V + y1 := by rw [HVE.out]; simp [ctr]
                have E1 := hidE e1
                have E2 := hidE e2
                have hy1 : -200000000000000 ≤ y1 ∧ y1 ≤ 200000000000000 := by omega
                have hy1a := hy1.1
                have hy1b := hy1.2
                have a1a := a1.1
                have a1b := a1.2
                clear e1 e2 hy1 a1 a2 a3
                go_wp2_with fail
                go_quiet (fail)
                go_wp2
                go_meet
                case rel => exact ⟨by rw [E1.out], by rw [E2.out], below_drewN (Below.refl _ _) _⟩
              · simp only at k1 a1 a2 a3
                subst k1
                have e1 : Q1 = Q := by rw [HQE.out]; simp [mvQ]
                have e2 : V1 = V + y1 := by rw [HVE.out]; simp [ctr]
                have E1 := hidE e1
                have E2 := hidE e2
                have hy1a : -200000000000000 ≤ y1 := by omega
                have hy1b : y1 ≤ 200000000000000 := by omega
                clear e1 e2 a1 a2 a3
                go_wp2
                go_meet
                case rel => exact ⟨by rw [E1.out], by rw [E2.out], Below.refl _ _⟩
              · simp only at k1 a1 a2 a3
                subst k1
                have e1 : Q1 = Q - qty + y2 := by rw [HQE.out]; simp [mvQ]
                have e2 : V1 = V - y1 := by rw [HVE.out]; simp [ctr]; omega
                have E1 := hidE e1
                have E2 := hidE e2
                have a1a := a1.1
                have a1b := a1.2
                have hy1a : -200000000000000 ≤ y1 := by omega
                have hy1b : y1 ≤ 200000000000000 := by omega
                have hy2a : -200000000000000 ≤ y2 := by omega
                have hy2b : y2 ≤ 200000000000000 := by omega
                clear e1 e2 a1 a2 a3
                go_wp2_with fail
                go_quiet (fail)
                go_wp2
                go_meet
                case rel => exact ⟨by rw [E1.out], by rw [E2.out], below_drewN (Below.refl _ _) _⟩
              · simp only at k1 a1 a2 a3
                subst k1
                have e1 : Q1 = qty := by rw [HQE.out]; simp [mvQ]
                have E1 := hidE e1
                clear e1 a1 a2 a3
                cases y4 with
                | true =>
                  have e2 : V1 = V + y1 := by rw [HVE.out]; simp [ctr]
                  have E2 := hidE e2
                  have hy1a : -200000000000000 ≤ y1 := by omega
                  have hy1b : y1 ≤ 200000000000000 := by omega
                  clear e2
                  go_wp2_with fail
                  go_quiet (fail)
                  go_wp2
                  go_meet
                  case rel => exact ⟨by rw [E1.out], by rw [E2.out], below_drewN (Below.refl _ _) _⟩
                | false =>
                  have e2 : V1 = V - y1 := by rw [HVE.out]; simp [ctr]; omega
                  have E2 := hidE e2
                  have hy1a : -200000000000000 ≤ y1 := by omega
                  have hy1b : y1 ≤ 200000000000000 := by omega
                  clear e2
                  go_wp2_with fail
                  go_quiet (fail)
                  go_wp2
                  go_meet
                  case rel => exact ⟨by rw [E1.out], by rw [E2.out], below_drewN (Below.refl _ _) _⟩
            case rest =>
              obtain ⟨rfl, rfl, HBX⟩ := hcut
              obtain ⟨W2, hW2⟩ : ∃ x, x = wc := ⟨_, rfl⟩
              rw [← hW2] at HBX ⊢
              clear hW2 c2 c3 c8 c9 c11 HK HQE HVE
              have hX1 : X < W1.heap.size := by rw [HS1.out]; omega
              have hcx2 : ∀ i, i < 14 → W2.cell? ⟨X, i, none⟩ = _ := fun i hi => (HBX.out.cell (p := ⟨X, i, none⟩) hX1).trans (HCX.out i hi)
              have hB12 : Below wi.heap.size wi W2 := HBW.out.trans (HBX.out.mono HBW.out.size)
              have d12 := hcx2 12 (by omega)
              have d13 := hcx2 13 (by omega)
              have d6 := hcx2 6 (by omega)
              simp only [List.getElem?_cons_zero, List.getElem?_cons_succ] at d12 d13 d6
              have HDY2 : Hid (dyE E x n (j + 1) = if day ≤ n then stE E x (j + 1) else dyE E x n j) := HDY.out
              have HB12 := hidE hB12
              have hs12 := hB12.size
              by_cases hj0 : j = 0
              · subst hj0
                have hBd := hidE hB12
                clear hcx2 hB12
                go_wp2_with fail
                go_quiet (fail)
                by_cases hd : day ≤ n
                · have HD1 : Hid (dyE E x n (0 + 1) = stE E x (0 + 1)) := by show _ = _; rw [HDY2.out, if_pos hd]
                  go_wp2
                  go_roundw
                  case rel => exact ⟨0 + 1, by omega, by go_num, by rw [HQ1.out], by rw [HV1.out], by rw [HD1.out, HQ1.out], by rw [HD1.out, HV1.out], below_drewN (HBj.out.trans (HB12.out.mono HBj.out.size)) _⟩
                  case measure => simp [intOf]; omega
                · have HD1 : Hid (dyE E x n (0 + 1) = dyE E x n 0) := by show _ = _; rw [HDY2.out, if_neg hd]
                  go_wp2
                  go_roundw
                  case rel => exact ⟨0 + 1, by omega, by go_num, by rw [HQ1.out], by rw [HV1.out], by rw [HD1.out], by rw [HD1.out], below_drewN (HBj.out.trans (HB12.out.mono HBj.out.size)) _⟩
                  case measure => simp [intOf]; omega
              · obtain ⟨i, hi⟩ : ∃ i, i + 1 = j := ⟨j - 1, by omega⟩
                have hji : (j : Int) - 1 = (i : Int) := by omega
                have hiE : 0 ≤ (i : Int) ∧ (i : Int) < (E.length : Int) := by omega
                have hjp : 0 < (j : Int) := by omega
                have hjn : 0 < j := by omega
                have hdj : decide (0 < (j : Int)) = true := decide_eq_true hjp
                have hdn : decide (0 < j) = true := decide_eq_true hjn
                have hlt0 := HLT.out i hi
                have hm1 : ∀ a, a < 7 → W2.cell? ⟨g8, i * 14 + a, none⟩ = (evC (E.getD i ev00))[a]? := fun a ha => by
                  rw [(hB12.cell (p := ⟨g8, i * 14 + a, none⟩) (show g8 < wi.heap.size by omega)), HCW.out i (by omega) a (by omega)]
                  unfold movF
                  rw [List.getElem?_append_left (by show a < 7; exact ha)]
                obtain ⟨e1, he1⟩ : ∃ e, e = E.getD i ev00 := ⟨_, rfl⟩
                rw [← he1] at hm1 hlt0
                have CC := fun W => compare_any e1 ⟨id, item, kind, qty, price, ofI, day⟩ W
                have hcv : ¬ (0 : Int) ≤ cmpE e1 ⟨id, item, kind, qty, price, ofI, day⟩ := by omega
                obtain ⟨cv, hcv1⟩ : ∃ c, c = cmpE e1 ⟨id, item, kind, qty, price, ofI, day⟩ := ⟨_, rfl⟩
                rw [← hcv1] at hcv hlt0 CC
                clear he1 hcv1
                obtain ⟨i0, i1, i2, i3, i4, i5, i6⟩ := e1
                unfold evV at CC
                simp only at CC
                have p0 := hm1 0 (by omega)
                have p1 := hm1 1 (by omega)
                have p2 := hm1 2 (by omega)
                have p3 := hm1 3 (by omega)
                have p4 := hm1 4 (by omega)
                have p5 := hm1 5 (by omega)
                have p6 := hm1 6 (by omega)
                have r0 := hcx2 0 (by omega)
                have r1 := hcx2 1 (by omega)
                have r2 := hcx2 2 (by omega)
                have r3 := hcx2 3 (by omega)
                have r4 := hcx2 4 (by omega)
                have r5 := hcx2 5 (by omega)
                simp only [evC, List.getElem?_cons_zero, List.getElem?_cons_succ, Nat.add_zero] at p0 p1 p2 p3 p4 p5 p6 r0 r1 r2 r3 r4 r5
                clear hm1 hcx2 hB12
                obtain ⟨W3, hW3⟩ : ∃ W, W = W2.drew := ⟨_, rfl⟩
                have hb3 : Below W2.heap.size W2 W3 := by rw [hW3]; exact below_drew _
                have hg2 : g8 < W2.heap.size := by omega
                have hX2 : X < W2.heap.size := by have := HBX.out.size; omega
                have P0 := fun m : Up W3 => m.cell ((hb3.cell (p := ⟨g8, i * 14, none⟩) hg2).trans p0)
                have P1 := fun m : Up W3 => m.cell ((hb3.cell (p := ⟨g8, i * 14 + 1, none⟩) hg2).trans p1)
                have P2 := fun m : Up W3 => m.cell ((hb3.cell (p := ⟨g8, i * 14 + 2, none⟩) hg2).trans p2)
                have P3 := fun m : Up W3 => m.cell ((hb3.cell (p := ⟨g8, i * 14 + 3, none⟩) hg2).trans p3)
                have P4 := fun m : Up W3 => m.cell ((hb3.cell (p := ⟨g8, i * 14 + 4, none⟩) hg2).trans p4)
                have P5 := fun m : Up W3 => m.cell ((hb3.cell (p := ⟨g8, i * 14 + 5, none⟩) hg2).trans p5)
                have P6 := fun m : Up W3 => m.cell ((hb3.cell (p := ⟨g8, i * 14 + 6, none⟩) hg2).trans p6)
                have R0 := fun m : Up W3 => m.cell ((hb3.cell (p := ⟨X, 0, none⟩) hX2).trans r0)
                have R1 := fun m : Up W3 => m.cell ((hb3.cell (p := ⟨X, 1, none⟩) hX2).trans r1)
                have R2 := fun m : Up W3 => m.cell ((hb3.cell (p := ⟨X, 2, none⟩) hX2).trans r2)
                have R3 := fun m : Up W3 => m.cell ((hb3.cell (p := ⟨X, 3, none⟩) hX2).trans r3)
                have R4 := fun m : Up W3 => m.cell ((hb3.cell (p := ⟨X, 4, none⟩) hX2).trans r4)
                have R5 := fun m : Up W3 => m.cell ((hb3.cell (p := ⟨X, 5, none⟩) hX2).trans r5)
                have R6 := fun m : Up W3 => m.cell ((hb3.cell (p := ⟨X, 6, none⟩) hX2).trans d6)
                have R12 := fun m : Up W3 => m.cell ((hb3.cell (p := ⟨X, 12, none⟩) hX2).trans d12)
                have R13 := fun m : Up W3 => m.cell ((hb3.cell (p := ⟨X, 13, none⟩) hX2).trans d13)
                have hU := up_ne
                have hA := anyW_ne
                have HB3 := hidE hb3
                have hD6 := (hb3.cell (p := ⟨X, 6, none⟩) hX2).trans d6
                have hX3 : X < W3.heap.size := by have := hb3.size; omega
                clear p0 p1 p2 p3 p4 p5 p6 r0 r1 r2 r3 r4 r5 d6 d12 d13 hb3 hi
                go_wp2_with fail
                refine wp_region_turn [(.pure, 0), (.read, 1), (.pure, 2), (.pure, 3), (.pure, 4), (.pure, 5), (.read, 6), (.pure, 7), (.pure, 8), (.pure, 9), (.pure, 10), (.pure, 11), (.pure, 12), (.pure, 13), (.pure, 14), (.pure, 15), (.pure, 16), (.pure, 17), (.pure, 18), (.read, 19), (.pure, 20), (.read, 21), (.make, 22), (.pure, 23), (.pure, 24), (.pure, 25)] (by kernel_rfl) (by kernel_rfl) ?_
                rw [← hW3]
                have HW3 := hidE hW3
                clear hW3
                repeat (first | refine turn_p rfl ?_ | refine turn_q rfl ?_); go_big_quiet_step (fail); refine wpQuiet_nil ?_
                refine turn_n rfl ?_
                go_wp2_with fail
                refine (CC _).mono ?_
                rintro r W4 ⟨rfl, hb4⟩
                have d6 := (hb4.cell (p := ⟨X, 6, none⟩) hX3).trans hD6
                have HB4 := hidE hb4
                clear CC P0 P1 P2 P3 P4 P5 P6 R0 R1 R2 R3 R4 R5 R6 R12 R13 hD6
                go_wp2_with fail
                refine ⟨rfl, hb4, ?_⟩
                clear hb4
                repeat (first | refine turn_p rfl ?_ | refine turn_q rfl ?_); go_big_quiet_step (fail); refine wpQuiet_nil ?_
                refine turn_nil ?_
                have hbB := HBj.out.trans (HB12.out.mono HBj.out.size)
                have hbC := hbB.trans (HB3.out.mono hbB.size)
                have HBD : Hid (Below w8.heap.size w8 W4) := hbC.trans (HB4.out.mono hbC.size)
                clear hbB hbC hU hA
                by_cases hd : day ≤ n
                · have HD1 : Hid (dyE E x n (j + 1) = stE E x (j + 1)) := by show _ = _; rw [HDY2.out, if_pos hd]
                  go_wp2
                  go_roundw
                  case rel => exact ⟨j + 1, by omega, by go_num, by rw [HQ1.out], by rw [HV1.out], by rw [HD1.out, HQ1.out], by rw [HD1.out, HV1.out], HBD⟩
                  case measure => simp [intOf]; omega
                · have HD1 : Hid (dyE E x n (j + 1) = dyE E x n j) := by show _ = _; rw [HDY2.out, if_neg hd]
                  go_wp2
                  go_roundw
                  case rel => exact ⟨j + 1, by omega, by go_num, by rw [HQ1.out], by rw [HV1.out], by rw [HD1.out], by rw [HD1.out], HBD⟩
                  case measure => simp [intOf]; omega
          · have hjj : j = E.length := by omega
            subst hjj
            have HDE : Hid (dyE E x n E.length = stUp b n t x) := by
              show _ = _
              unfold dyE
              rw [List.take_length]
              exact HDAY.out
            rw [HDE.out]
            have hB68 : Below w6.heap.size w6 wi := by
              have h1 := HB.out.trans (HB8.out.mono HB.out.size)
              exact h1.trans (HBj.out.mono h1.size)
            have hbo : Below wo.heap.size wo wi := HB8.out.trans (HBj.out.mono HB8.out.size)
            have lbi : bi < wo.heap.size := World.block_lt_of_cell? _ _ KI.out
            have ki9 := (hbo.cell (p := ⟨bi, 0, none⟩) lbi).trans KI.out
            have ks9 := (hB68.cell (p := ⟨bs, 0, none⟩) hbsl6).trans KS6.out
            have kx9 := (hbo.cell (p := ⟨g, k, none⟩) (show g < wo.heap.size by have := HB.out.size; omega)).trans kx
            have hoh := own_below HOH.out hB68 (Nat.le_refl _)
            have hs6 := hB68.size
            have hbo2 := hbo.size
            have C9 := idx_hold (stUp b n t) ks ad6 cp6 wi hoh (by omega) 13 #[.pointer (some ⟨bs, 0, none⟩), .pointer (some ⟨bi, 0, none⟩)] (fun y => decide (y = x)) (enters_of Tryz.func13 (by kernel_rfl) rfl)
              (fun y W hbW => mvIs_any y _ _ bs bi g cp4 xs.length k x W ((hbW.cell (p := ⟨bs, 0, none⟩) (show bs < wi.heap.size by omega)).trans ks9) ((hbW.cell (p := ⟨bi, 0, none⟩) (show bi < wi.heap.size by omega)).trans ki9) ((hbW.cell (p := ⟨g, k, none⟩) (show g < wi.heap.size by omega)).trans kx9) hlt)
            have HOH9 := hidE hoh
            have HB69 := hidE hB68
            have KI9 := hidE ki9
            have hbd := st_bd (stUp_ok b n t (by omega) x)
            have hmk := HKS.out.mem x
            obtain ⟨DQ, hDQ⟩ : ∃ q, q = sumQ (stUp b n t x).ys := ⟨_, rfl⟩
            obtain ⟨DV, hDV⟩ : ∃ q, q = sumV (stUp b n t x).ys := ⟨_, rfl⟩
            have HDQ := hidE hDQ
            have HDV := hidE hDV
            have HZ : Hid ((stUp b n t x).ys = [] → DQ = 0) := fun hz => by rw [hDQ, hz]; rfl
            have HNZ : Hid ((stUp b n t x).ys ≠ [] → 1 ≤ DQ) := fun hz => by rw [hDQ]; exact hbd.2.2.2.2 hz
            rw [← hDQ, ← hDV]
            have HMK : Hid (x ∈ ks ↔ (stUp b n t x).ys ≠ []) := hmk
            clear hB68 hbo ki9 ks9 kx9 hoh hbd hmk hDQ hDV HBj
            go_wp2_with fail
            refine C9.mono ?_
            rintro r w10 ⟨ii, rfl, hfd, hb10⟩
            have HB10 : Hid (Below w6.heap.size w6 w10) := HB69.out.trans (hb10.mono HB69.out.size)
            have ki10 := (hb10.cell (p := ⟨bi, 0, none⟩) (show bi < wi.heap.size by omega)).trans KI9.out
            have hs10 := hb10.size
            have HNXT : Hid (∀ W : World, W = (w10.alloc (.cells #[.int .i64 ((k : Int) + 1)] 3)) → Hid (W.cell? ⟨w10.heap.size, 0, none⟩ = some (.int .i64 (k + 1 : Nat))) ∧ Hid (W.frozen? ⟨w10.heap.size, 0, none⟩ = false) ∧ Hid (w6.heap.size ≤ w10.heap.size) ∧ Hid (Below w6.heap.size w6 W)) := fun W hW => by
              refine ⟨?_, ?_, HB10.out.size, ?_⟩
              · show _ = _; rw [hW]; simp
              · show _ = _; rw [hW]; simp
              · show Below _ _ _; rw [hW]; exact HB10.out.alloc HB10.out.size _
            have hoh10 := own_below HOH9.out hb10 (Nat.le_refl _)
            rcases hfd with ⟨hi1, hno⟩ | ⟨kk, hkk, hi1, hyes, _⟩
            · subst hi1
              have hxk : x ∉ ks := fun c => by have := hno x c; simp at this
              have hz : (stUp b n t x).ys = [] := Classical.byContradiction fun c => hxk (HMK.out.2 c)
              have hd0 := HZ.out hz
              subst hd0
              clear hno hxk hz C9 hoh10 hb10
              go_wp2
              obtain ⟨n1, n2, n3, n4⟩ := HNXT.out _ rfl
              refine ⟨⟨k + 1, w10.heap.size, by omega, rfl, n1, n2, n3, n4⟩, ?_⟩
              rw [HMS.out]
              unfold atP
              simp only [n1.out]
              omega
            · subst hi1
              have hxe : ks[kk] = x := by simpa using hyes
              rcases own_form hoh10 with ⟨_, e2, _⟩ | ⟨gh, cph, e1, _, hghl, _⟩
              · rw [e2] at hkk; exact absurd hkk (Nat.not_lt_zero _)
              simp only [Value.slice.injEq] at e1
              obtain ⟨rfl, _, rfl⟩ := e1
              have z1 := (own_cell (m := 3) (fun _ => rfl) hoh10 kk 1 hkk (by omega)).1
              have z2 := (own_cell (m := 3) (fun _ => rfl) hoh10 kk 2 hkk (by omega)).1
              rw [hxe] at z1 z2
              have z1' : w10.cell? ⟨gh, kk * 3 + 1, none⟩ = some (.int .i64 DQ) := by rw [HDQ.out]; exact z1
              have z2' : w10.cell? ⟨gh, kk * 3 + 2, none⟩ = some (.int .i64 DV) := by rw [HDV.out]; exact z2
              have hnz := HNZ.out (HMK.out.1 (by rw [← hxe]; exact List.getElem_mem hkk))
              have hkz : decide ((kk : Int) < 0) = false := by simp
              have hdz : (DQ == 0) = false := by simp; omega
              clear hyes hxe z1 z2 C9 hoh10 hb10
              go_wp2
              obtain ⟨n1, n2, n3, n4⟩ := HNXT.out _ rfl
              refine ⟨⟨k + 1, w10.heap.size, by omega, rfl, n1, n2, n3, n4⟩, ?_⟩
              rw [HMS.out]
              unfold atP
              simp only [n1.out]
              omega
      · have hkk : k = xs.length := by omega
        subst hkk
        have hBf := B6.out.trans (HB.out.mono B6.out.size)
        go_wp2
        go_ret
        exact ⟨rfl, hBf⟩
end Go.Proofs.YtcfgacdcgljbaaaGreat
