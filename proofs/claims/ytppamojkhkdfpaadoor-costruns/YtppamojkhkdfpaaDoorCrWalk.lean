/- The walk of tallymanlaw.CostRuns. -/
import Derived.Test.YtppamojkhkdfpaaDoorCrSame
import Derived.Test.YtppamojkhkdfpaaDoorRefRun
import Derived.Test.YtppamojkhkdfpaaDoorCrMem
import Derived.Test.YtppamojkhkdfpaaDoorEvApp
namespace Go.Proofs.YtppamojkhkdfpaaDoor
open Go.RowKit Go.Maps
set_option maxRecDepth 20000 in
set_option maxHeartbeats 8000000 in
theorem costRuns_walk (ao : Option Addr) (cap : Nat) (l : List Ev) (w : World) (hgl : TabG w) (hw : ∀ e ∈ l, EvW e) (h : EvsC w ao l) (hl : l.length ≤ maxLen) :
    Calls Tryd.prog 3 #[.slice ao l.length cap] w fun r w' => r = .returned (.bool true) ∧ Below w.heap.size w w' := by
  obtain ⟨i0, hi, hz0, hz1, hz2⟩ := info_parts Tryd.infoEv
  have HC : Hid (EvsC w ao l) := h
  have HW : Hid (∀ e ∈ l, EvW e) := hw
  have HGL : Hid (TabG w) := hgl
  unfold maxLen at hl
  clear hw h hgl
  by_cases hlen : 60 < l.length
  · have hz : (60 : Int) < (l.length : Int) := by omega
    go_enter Tryd.func3, Tryd.ntmps3
    go_wp2
    go_ret
    exact ⟨rfl, Below.refl _ _⟩
  · have hz : ¬ (60 : Int) < (l.length : Int) := by omega
    go_enter Tryd.func3, Tryd.ntmps3
    go_wp2
    go_loopw [3] (fun i wr => ∃ k : Nat, k ≤ l.length ∧ i = .int .i64 k ∧ Hid (wr = w)) (fun i _ => l.length - (intOf i).toNat)
    case atStart => exact ⟨0, Nat.zero_le _, rfl, hidE rfl⟩
    case round =>
      obtain ⟨k, hk, rfl, HWR⟩ := hrel
      have hwr : wr = w := HWR.out
      clear HWR
      subst hwr
      by_cases hlt : k < l.length
      · obtain ⟨g, o, hao, hg, hc⟩ := HC.out (by omega)
        subst hao
        have q1 := hc k hlt 1 (by omega)
        obtain ⟨x, hx⟩ : ∃ x, x = l[k] := ⟨_, rfl⟩
        rw [← hx] at q1
        simp only [evC, List.getElem?_cons_succ, List.getElem?_cons_zero] at q1
        have hxs := (HW.out l[k] (List.getElem_mem hlt)).item
        rw [← hx] at hxs
        unfold maxLen at hxs
        clear hc hx
        by_cases hs : 60 < x.item.size
        · have hz : (60 : Int) < (x.item.size : Int) := by omega
          go_wp2
          go_ret
          exact ⟨rfl, Below.refl _ _⟩
        · have hz : ¬ (60 : Int) < (x.item.size : Int) := by omega
          go_wp2
          go_roundw
          case rel => exact ⟨k + 1, by omega, by go_num, hidE (by first | trivial | rfl)⟩
          case measure => simp [intOf]; omega
      · have hkk : k = l.length := by omega
        subst hkk
        obtain ⟨ws, hws⟩ : ∃ x, x = wr := ⟨_, rfl⟩
        rw [← hws] at HC HGL
        have HPO : Hid (∀ X, Below ws.heap.size ws X → Below wr.heap.size wr X) := fun X hX => by rw [← hws]; exact hX
        rw [← hws]
        clear hws
        have hrr := refRun_any l ao cap ws HC.out HW.out (by omega) HGL.out
        go_wp2_with fail
        refine hrr.mono ?_
        rintro r w1 ⟨rv1, rfl, hres1, hb1⟩
        obtain ⟨M, hM⟩ : ∃ M, M = goS stk00 (ordd l) := ⟨_, rfl⟩
        obtain ⟨ls, hls⟩ : ∃ ls, ls = goL stk00 (ordd l) := ⟨_, rfl⟩
        rw [← hM, ← hls] at hres1
        obtain ⟨u1, mb1, n1, D1, V1, rfl, _, _, hR1⟩ := hres1
        obtain ⟨adu1, nu1, cu1, hu1⟩ := own_len' hR1.own
        subst hu1
        have HR1 := hidE hR1
        have HB1 := hidE hb1
        have HML : Hid (M = goS stk00 (ordd l) ∧ ls = goL stk00 (ordd l)) := ⟨hM, hls⟩
        clear hrr hR1 hb1 hM hls
        have hE : (w1.alloc (.cells #[] 24)).ownsRow w1.heap.size 24 7 (.slice (some ⟨w1.heap.size, 0, none⟩) 0 0) 0 [] := own_empty w1
        have HE := hidE hE
        have HC1 : Hid (EvsC (w1.alloc (.cells #[] 24)) ao l) := (HC.out.below HB1.out).below ((Below.refl _ _).alloc (Nat.le_refl _) _)
        clear hE
        go_wp2_with (first
          | (at_builtin; refine wpList_app_evs rfl _ _ rfl w1.heap.size rfl HE.out l ao cap rfl HC1.out (by omega) (by simp) ?_)
          | go_in)
        intro cv w2 hown2 hgr2
        obtain ⟨adc, nc, cc, hcv⟩ := own_len' hown2
        subst hcv
        have hb2 : Below w1.heap.size w1 w2 := ((Below.refl _ _).alloc (Nat.le_refl _) _).grown hgr2 (by simp) (fun j e => by cases e; exact Nat.le_refl _)
        have hco := run_any l _ w2 (EvsAt.of_own hown2) HW.out (by omega)
        have HB2 := hidE hb2
        have hs2 := hb2.size
        clear hown2 hgr2 hb2 HE HC1
        go_wp2_with fail
        refine hco.mono ?_
        rintro r w3 ⟨rv2, rfl, hres2, hb3⟩
        rw [← HML.out.1, ← HML.out.2] at hres2
        obtain ⟨u2, mb2, n2, D2, V2, rfl, hmb2, hge2, hR2⟩ := hres2
        obtain ⟨adu2, nu2, cu2, hu2⟩ := own_len' hR2.own
        subst hu2
        obtain ⟨W, hW⟩ : ∃ W, W = (w3.alloc (.cells #[.slice adu1 nu1 cu1, .map (some mb1)] 28)).alloc (.cells #[.slice adu2 nu2 cu2, .map (some mb2)] 30) := ⟨_, rfl⟩
        have hb3W : Below w3.heap.size w3 W := by rw [hW]; exact ((Below.refl _ _).alloc (Nat.le_refl _) _).alloc (by simp) _
        have cW : W.cell? ⟨w3.heap.size, 0, none⟩ = some (.slice adu1 nu1 cu1) ∧ W.cell? ⟨w3.heap.size, 1, none⟩ = some (.map (some mb1)) ∧ W.cell? ⟨w3.heap.size + 1, 0, none⟩ = some (.slice adu2 nu2 cu2) ∧ W.cell? ⟨w3.heap.size + 1, 1, none⟩ = some (.map (some mb2)) := by rw [hW]; simp
        have hsW : W.heap.size = w3.heap.size + 2 := by rw [hW]; simp
        have HW2 := hidE hW
        have hb13 : Below w1.heap.size w1 w3 := HB2.out.trans (hb3.mono hs2)
        have hR1W := (HR1.out.below hb13).below hb3W
        have hR2W := hR2.below hb3W
        have hbsW : Below ws.heap.size ws W := (HB1.out.trans (hb13.mono HB1.out.size)).trans (hb3W.mono (Nat.le_trans HB1.out.size hb13.size))
        have HBW := hidE hbsW
        have e1 := own_nR hR1W.own
        have e2 := own_nR hR2W.own
        subst e1
        subst e2
        have hll : ls.length ≤ 100 := by
          have h2 := ordd_len l
          rw [HML.out.2, goL_len]; omega
        have hokM : ∀ x, StkOK 60 (M x) := fun x => by
          have h0 := (goS_ok (ordd l) 0 stk00 (fun y => stk0_ok 0) (ordd_rt l)).1 x
          rw [← HML.out.1] at h0
          exact h0.more (by have := ordd_len l; omega)
        have HOK := hidE hokM
        have HR1W := hidE hR1W
        have HR2W := hidE hR2W
        have hl1 := fun ty => hR1W.map.len Tryd.underlying26 ty
        have hl2 := fun ty => hR2W.map.len Tryd.underlying26 ty
        rw [res_sizeR hR1W hR2W] at hl1
        rw [hW] at hl1 hl2
        obtain ⟨c10, c11, c20, c21⟩ := cW
        have hw1 : w3.heap.size < W.heap.size := by omega
        have hw2 : w3.heap.size + 1 < W.heap.size := by omega
        clear hco hR2 hb3 hb3W hb13 hR1W hR2W hbsW hokM hW HR1 HB2 hmb2 hge2
        obtain ⟨b1, hb1⟩ : ∃ b, b = w3.heap.size := ⟨_, rfl⟩
        rw [← hb1] at c10 c11 c20 c21 hw1 hw2
        go_wp2
        rw [← HW2.out]
        rw [← hb1]
        clear hb1 HW2 hl1 hl2
        go_loopw [6] (fun i wr => ∃ k : Nat, k ≤ ls.length ∧ i = .int .i64 k ∧ Hid (Below W.heap.size W wr)) (fun i _ => ls.length - (intOf i).toNat)
        case atStart => exact ⟨0, Nat.zero_le _, rfl, Below.refl _ _⟩
        case round =>
          obtain ⟨k, hk, rfl, HBr⟩ := hrel
          have d10 := (HBr.out.cell (p := ⟨b1, 0, none⟩) hw1).trans c10
          have d11 := (HBr.out.cell (p := ⟨b1, 1, none⟩) hw1).trans c11
          have d20 := (HBr.out.cell (p := ⟨b1 + 1, 0, none⟩) hw2).trans c20
          have d21 := (HBr.out.cell (p := ⟨b1 + 1, 1, none⟩) hw2).trans c21
          by_cases hlt : k < ls.length
          · rcases own_form HR1W.out.own with ⟨_, e2, _⟩ | ⟨g1, cp1, e1, _, hg1, _⟩
            · rw [e2] at hlt; exact absurd hlt (Nat.not_lt_zero _)
            · simp only [Value.slice.injEq] at e1
              obtain ⟨rfl, _, rfl⟩ := e1
              rcases own_form HR2W.out.own with ⟨_, e2, _⟩ | ⟨g2, cp2, e2, _, hg2, _⟩
              · rw [e2] at hlt; exact absurd hlt (Nat.not_lt_zero _)
              · simp only [Value.slice.injEq] at e2
                obtain ⟨rfl, _, rfl⟩ := e2
                have p := fun j hj => (HBr.out.cell (p := ⟨g1, k * 5 + j, none⟩) hg1).trans (own_cell (f := linC) (fun _ => rfl) HR1W.out.own k j hlt hj).1
                have q := fun j hj => (HBr.out.cell (p := ⟨g2, k * 5 + j, none⟩) hg2).trans (own_cell (f := linC) (fun _ => rfl) HR2W.out.own k j hlt hj).1
                have p0 := p 0 (by omega)
                have p1 := p 1 (by omega)
                have p2 := p 2 (by omega)
                have p3 := p 3 (by omega)
                have p4 := p 4 (by omega)
                have q0 := q 0 (by omega)
                have q1 := q 1 (by omega)
                have q2 := q 2 (by omega)
                have q3 := q 3 (by omega)
                have q4 := q 4 (by omega)
                clear p q
                generalize ls[k] = y at p0 p1 p2 p3 p4 q0 q1 q2 q3 q4
                obtain ⟨y0, y1, y2, y3, y4⟩ := y
                simp only [linC, List.getElem?_cons_zero, List.getElem?_cons_succ, Nat.add_zero] at p0 p1 p2 p3 p4 q0 q1 q2 q3 q4
                have hne := neq_linR y0 y1 y2 y3 y4
                have mixed := csP.mixed
                go_wp2_with fail
                go_quiet (fail)
                have HBn : Hid (Below W.heap.size W (wr.drewN nq)) := below_drewN HBr.out nq
                go_wp2
                go_roundw
                case rel => exact ⟨k + 1, by omega, by go_num, HBn⟩
                case measure => simp [intOf]; omega
          · have hkk : k = ls.length := by omega
            subst hkk
            obtain ⟨X, hX⟩ : ∃ x, x = wr := ⟨_, rfl⟩
            rw [← hX] at HBr d10 d11 d20 d21
            rw [← hX]
            clear hX
            have HR1X := hidE (HR1W.out.below HBr.out)
            have HR2X := hidE (HR2W.out.below HBr.out)
            have hx1 : b1 < X.heap.size := Nat.lt_of_lt_of_le hw1 HBr.out.size
            have hx2 : b1 + 1 < X.heap.size := Nat.lt_of_lt_of_le hw2 HBr.out.size
            go_wp2_with (first
              | (at_range; refine wpList_range_own _ rfl _ 26 rfl 9 34 law_strT Tryd.underlying26 heldE mb1 n1 D1 rfl HR1X.out.map ?_)
              | go_in)
            intro wR hrg0 hg0 hsR
            have HR0 : Hid (wR.ranges Tryd.prog 9 heldE mb1 X.heap.size n1 D1 (Maps.has D1) (Maps.size D1)) := hrg0
            have HB0 : Hid (Below X.heap.size X wR) := ⟨hg0.os, hg0.tape, hg0.output, hg0.size, fun j hj => hg0.block j hj (by simp)⟩
            clear hrg0 hg0
            go_wp2
            go_loopw [] (fun wr => ∃ (left : Lit → Bool) (cnt : Nat), Hid (wr.ranges Tryd.prog 9 heldE mb1 X.heap.size n1 D1 left cnt) ∧ Hid (Below X.heap.size X wr)) (fun wr => wr.rangeLeft mb1 X.heap.size)
            case atStart => exact ⟨_, _, HR0, HB0⟩
            case round =>
              obtain ⟨left, cnt, HR, HBy⟩ := hrel
              go_wp2_with (at_next; refine wpList_next_ranges _ rfl _ rfl 9 law_strT heldE Value.string (fun c : Value => c) (fun key kl hkey => by obtain ⟨s, hs⟩ := Maps.keyOf_string_inv Tryd.underlying9 hkey; exact ⟨s, hs⟩) (fun v y _ => ⟨v, rfl⟩) mb1 X.heap.size n1 D1 left cnt rfl HR.out ?_ ?_)
              · intro hc0 hl0
                clear hc0 hl0
                have f20 := (HBy.out.cell (p := ⟨b1 + 1, 0, none⟩) hx2).trans d20
                have f21 := (HBy.out.cell (p := ⟨b1 + 1, 1, none⟩) hx2).trans d21
                have he : (M ⟨#[]⟩).ys = [] := by rw [HML.out.1]; exact none_ys l
                have hsum := Sum_any (B := 0) (rv := .agg #[.slice adu2 ls.length cu2, .map (some mb2)]) (W := wr) (M := M) (ls := ls) ⟨_, mb2, n2, D2, V2, rfl, Nat.zero_le _, fun _ _ _ => Nat.zero_le _, (RunRes.low (HR2X.out.below HBy.out))⟩ ⟨#[]⟩ (by unfold maxLen; decide) (HOK.out _) (by omega)
                rw [he] at hsum
                go_wp2_with fail
                refine hsum.mono ?_
                rintro r wE ⟨rfl, hbE⟩
                have HBE : Hid (Below wr.heap.size wr wE) := hbE
                clear hsum hbE
                go_wp2
                go_ret
                refine ⟨rfl, HPO.out wE ?_⟩
                exact (HBW.out.trans (HBr.out.mono HBW.out.size)).trans ((HBy.out.trans (HBE.out.mono HBy.out.size)).mono (Nat.le_trans HBW.out.size HBr.out.size))
              · intro x c kl yd yp w2 cnt2 hkey hlk hcv hat hrg2 hlt2 hgr2 hsz2 hen
                obtain ⟨rfl, hxs⟩ := key_str_inv hkey
                have hys : (M x).ys ≠ [] := fun e => by
                  have h1 := HR1X.out.no x e
                  rw [has_true_of_atKey hat] at h1
                  cases h1
                have hcx : c = V1 x := by
                  have h1 := hat (.held (.slice none 0 0))
                  rw [HR1X.out.yes x hys, heldE_inv hcv] at h1
                  exact (held_inj h1).symm
                have hcv2 : c = (if (M x).ys.isEmpty = true then Value.slice none 0 0 else V1 x) := by rw [if_neg (by simpa using hys)]; exact hcx
                have HR2 : Hid (w2.ranges Tryd.prog 9 heldE mb1 X.heap.size n1 D1 (fun z => left z && !z.sameKey (keyB x)) cnt2) := hrg2
                have hB2 : Below X.heap.size X w2 := HBy.out.grown hgr2 (by have := HR.out.lt; omega) (fun j hj => by cases hj; omega)
                have HLV : Hid (wr.rangeLeft mb1 X.heap.size = cnt) := HR.out.left_eq
                have HB2 := hidE hB2
                have hA1 := HR1X.out.below hB2
                have hA2 := HR2X.out.below hB2
                have f10 := (hB2.cell (p := ⟨b1, 0, none⟩) hx1).trans d10
                have f11 := (hB2.cell (p := ⟨b1, 1, none⟩) hx1).trans d11
                have f20 := (hB2.cell (p := ⟨b1 + 1, 0, none⟩) hx2).trans d20
                have f21 := (hB2.cell (p := ⟨b1 + 1, 1, none⟩) hx2).trans d21
                have hs1 := refSumR hA1 x hxs (HOK.out x) (by omega)
                have HA1 := hidE hA1
                have HA2 := hidE hA2
                obtain ⟨adl, nl, cl, hcl⟩ := (lookRL hA1 x).slice
                have hla : LayAt w2 c (M x).ys := by rw [hcv2]; exact lookRL hA1 x
                rw [← hcv2] at hcl
                subst hcl
                have HLA := hidE hla
                clear hrg2 hat hcv hlk hkey hgr2 hys hcx hcv2 hB2 hA1 hA2 hla
                go_wp2_with fail
                refine hs1.mono ?_
                rintro r w5 ⟨rfl, hb5⟩
                have HR5 : Hid (w5.ranges Tryd.prog 9 heldE mb1 X.heap.size n1 D1 (fun z => left z && !z.sameKey (keyB x)) cnt2) := ranges_below HR2.out hb5
                have hs2 := Sum_any (B := 0) (rv := .agg #[.slice adu2 ls.length cu2, .map (some mb2)]) (W := w5) (M := M) (ls := ls) ⟨_, mb2, n2, D2, V2, rfl, Nat.zero_le _, fun _ _ _ => Nat.zero_le _, RunRes.low (HA2.out.below hb5)⟩ x hxs (HOK.out _) (by omega)
                have g20 := (hb5.cell (p := ⟨b1 + 1, 0, none⟩) (World.block_lt_of_cell? _ _ f20)).trans f20
                have g21 := (hb5.cell (p := ⟨b1 + 1, 1, none⟩) (World.block_lt_of_cell? _ _ f21)).trans f21
                have HB5 := hidE hb5
                clear hs1 hb5 f10 f11 f20 f21
                go_wp2_with fail
                refine hs2.mono ?_
                rintro r w6 ⟨rfl, hb6⟩
                have hb26 : Below w2.heap.size w2 w6 := HB5.out.trans (hb6.mono HB5.out.size)
                have h20 := (hb6.cell (p := ⟨b1 + 1, 0, none⟩) (World.block_lt_of_cell? _ _ g20)).trans g20
                have h21 := (hb6.cell (p := ⟨b1 + 1, 1, none⟩) (World.block_lt_of_cell? _ _ g21)).trans g21
                have HR6 : Hid (w6.ranges Tryd.prog 9 heldE mb1 X.heap.size n1 D1 (fun z => left z && !z.sameKey (keyB x)) cnt2) := ranges_below HR5.out hb6
                have hlk6 := lookR (HA2.out.below hb26) x hxs
                have hE6 := sameLay_any (M x).ys _ _ w6 (lookRL (HA2.out.below hb26) x) (HLA.out.below hb26) (by have := (HOK.out x).len; omega)
                generalize (if (M x).ys.isEmpty = true then Value.slice none 0 0 else V2 x) = lv2 at hlk6 hE6
                have HB26 := hidE hb26
                clear hs2 hb6 hb26 g20 g21
                go_wp2_with fail
                refine hE6.mono ?_
                rintro r w7 ⟨rfl, mq, hw7⟩
                have b67 : Below w6.heap.size w6 w7 := by rw [hw7]; exact ⟨rfl, rfl, rfl, Nat.le_refl _, fun _ _ => rfl⟩
                have HR7 : Hid (w7.ranges Tryd.prog 9 heldE mb1 X.heap.size n1 D1 (fun z => left z && !z.sameKey (keyB x)) cnt2) := ranges_below HR6.out b67
                have HB7 : Hid (Below X.heap.size X w7) := HB2.out.trans ((HB26.out.trans (b67.mono HB26.out.size)).mono HB2.out.size)
                clear hE6 hlk6 hw7 b67 h20 h21
                go_wp2
                go_roundw
                case rel => exact ⟨_, cnt2, HR7, HB7⟩
                case measure =>
                  rw [HLV.out, HR7.out.left_eq]
                  exact hlt2
end Go.Proofs.YtppamojkhkdfpaaDoor
