/- The walk of tallymanref.Months. The walk of tallymanref.Until: a walk through figures by months, in any order. -/
import Derived.Test.YtcfgacdcgljbaaaGreatDoorBnS
import Derived.Test.YtcfgacdcgljbaaaGreatDoorRefRun
import Derived.Test.YtcfgacdcgljbaaaGreatDoorBoA
import Derived.Test.YtcfgacdcgljbaaaGreatDoorBoB
namespace Go.Proofs.YtcfgacdcgljbaaaGreatDoor
open Go.RowKit Go.Maps
/-- What Months answers. -/
def MonR (l : List Ev) (w : World) (r : Ending) (w' : World) : Prop := ∃ mb n D, r = .returned (.map (some mb)) ∧ FMap w' mb n D (mons l) ∧ w.heap.size ≤ mb ∧ n ≤ 200 ∧ Below w.heap.size w w'
theorem mons_stl {l : List Ev} (h : ∀ e ∈ l, Rt e) : mons l = monsA [] ((stl l).zip (goL stk00 (stl l))) := by
  unfold mons
  rw [ordd_stl h]
/-- Months gone through so far are ascending. -/
theorem asc_take (l : List Ev) (h : ∀ e ∈ l, Rt e) (k : Nat) (hk : k < (stl l).length) : Asc (monsA [] (((stl l).zip (goL stk00 (stl l))).take k)) (dK ((stl l)[k]).day : Int) := by
  have hd : ∀ e ∈ stl l, 0 ≤ e.day := fun e he => (h e ((stl_perm l).mem_iff.1 he)).2.1.1
  have hs : (stl l).Pairwise fun x y => x.day ≤ y.day := (stl_sorted _).imp day_le
  have hzp := zip_pw (stl l) (goL stk00 (stl l)) hs
  have htk : (((stl l).zip (goL stk00 (stl l))).take k).Pairwise fun p q => p.1.day ≤ q.1.day := hzp.sublist (List.take_sublist _ _)
  have hin : ∀ p ∈ ((stl l).zip (goL stk00 (stl l))).take k, 0 ≤ p.1.day ∧ p.1.day ≤ (stl l)[k].day := fun p hp => by
    obtain ⟨j, hj, rfl⟩ := List.getElem_of_mem hp
    rw [List.length_take, List.length_zip] at hj
    rw [List.getElem_take, List.getElem_zip]
    refine ⟨hd _ (List.getElem_mem _), ?_⟩
    exact List.pairwise_iff_getElem.1 hs j k (by omega) hk (by omega)
  obtain ⟨d', hd', ha⟩ := asc_mons (((stl l).zip (goL stk00 (stl l))).take k) [] 0 (Int.le_refl _) ⟨List.Pairwise.nil, fun m hm => by cases hm⟩ (fun p hp => (hin p hp).1) htk
  refine ⟨ha.row, fun m hm => ?_⟩
  have := ha.bd m hm
  rcases hd' with rfl | ⟨p, hp, rfl⟩
  · have h0 := dk_mono (Int.le_refl 0) (hd _ (List.getElem_mem hk)); omega
  · have h0 := dk_mono (hin p hp).1 (hin p hp).2; omega
theorem wf_ofR {n : Int} (h0 : -9223372036854775808 ≤ n) (h1 : n ≤ 9223372036854775807) : (Lit.int .i64 n).wf = true := by
  simp [Lit.wf, IntKind.min, IntKind.max, IntKind.signed, IntKind.bits]
  omega
theorem rtK_kindR {k q p o : Int} (h : rtK k q p o) : k = 1 ∨ k = 2 ∨ k = 3 ∨ k = 4 := by
  rcases h with ⟨rfl, _⟩ | ⟨rfl, _⟩ | ⟨rfl, _⟩ | ⟨rfl, _⟩ <;> simp
theorem turned_grown {w w' : World} {pb : Nat} {sv : Value} (h : w.grownBy w' (some pb)) : Turned w w' pb sv := ⟨h.os, h.tape, h.output, h.size, fun k hk hne _ => h.block k hk (fun e => hne (by injection e))⟩
theorem below_turned {N : Nat} {w w3 wr : World} {pb : Nat} (hb : Below N w w3) (hN : N ≤ pb) (hs : N ≤ w3.heap.size) (ht : Turned w3 wr pb nilS) : Below N w wr :=
  ⟨ht.os.trans hb.os, ht.tape.trans hb.tape, ht.output.trans hb.output, Nat.le_trans hb.size ht.size, fun k hk => (ht.block k (by omega) (by omega) (by simp [nilS, Value.ownBlock])).trans (hb.block k hk)⟩
theorem field_linesR (ad : Option Addr) (n c : Nat) (b : Value) (w : World) : (Instr.field 138 (.agg #[.slice ad n c, b]) 0).run Tryz.prog w = .ok (.slice ad n c) w := by kernel_rfl
set_option maxRecDepth 100000 in
set_option maxHeartbeats 8000000 in
theorem rmonths_any (l : List Ev) (ao : Option Addr) (cap : Nat) (w : World) (h : EvsC w ao l) (hw : ∀ e ∈ l, EvW e) (hr : ∀ e ∈ l, Rt e) (hl : l.length ≤ 200) (hgl : TabG w) :
    Calls Tryz.prog 13 #[.slice ao l.length cap] w (MonR l w) := by
  have hmm := @run_makeMap Tryz.prog
  obtain ⟨w0, hw0⟩ : ∃ W, W = w.alloc (.map #[] 0) := ⟨_, rfl⟩
  have hm0 : FMap w0 w.heap.size 0 (.map []) [] := by rw [hw0]; exact fmap_new w
  have hb0 : Below w.heap.size w w0 := by rw [hw0]; exact (Below.refl _ _).alloc (Nat.le_refl _) _
  have hrn := refRun_any l ao cap w0 (h.below hb0) hw hl (hgl.below hb0)
  rw [ordd_stl hr] at hrn
  have HH := hidE h
  have HW0 := hidE hw0
  have HRT : Hid (∀ e ∈ stl l, Rt e) := fun e he => hr e ((stl_perm l).mem_iff.1 he)
  have HASC : Hid (∀ k (hk : k < (stl l).length), Asc (monsA [] (((stl l).zip (goL stk00 (stl l))).take k)) (dK ((stl l)[k]).day : Int)) := fun k hk => asc_take l hr k hk
  have HMS := hidE (mons_stl hr)
  have HSL := hidE (stl_len l)
  have HGO := hidE (goL_len stk00 (stl l))
  clear h hw hr hgl hw0
  obtain ⟨fs, hfs⟩ : ∃ fs, fs = stl l := ⟨_, rfl⟩
  have HFS := hidE hfs
  rw [← hfs] at hrn HRT HASC HMS HSL HGO
  obtain ⟨ls, hls⟩ : ∃ x, x = goL stk00 fs := ⟨_, rfl⟩
  rw [← hls] at hrn HASC HMS HGO
  clear hfs hls
  go_enter Tryz.func13, Tryz.ntmps13
  go_wp2_with fail
  rw [← HW0.out]
  refine hrn.mono ?_
  rintro r w1 ⟨rv, rfl, hres, hb1⟩
  obtain ⟨u, mb2, k2, D2, V2, rfl, _, _, hR⟩ := hres
  have hown := hR.own
  rw [HGO.out, HSL.out] at hown
  obtain ⟨adu, cpu, hu⟩ := own_lenN hown
  subst hu
  have HOWN := hidE hown
  have hm1 := hm0.below hb1
  have hB1 : Below w.heap.size w w1 := hb0.trans (hb1.mono hb0.size)
  clear hrn hR hown
  obtain ⟨w2, hw2⟩ : ∃ W, W = w1.alloc (.cells #[.slice adu l.length cpu, .map (some mb2)] 138) := ⟨_, rfl⟩
  have hb2 : Below w1.heap.size w1 w2 := by rw [hw2]; exact (Below.refl _ _).alloc (Nat.le_refl _) _
  have hB2 : Below w.heap.size w w2 := hB1.trans (hb2.mono hB1.size)
  have hc0 : w2.cell? ⟨w1.heap.size, 0, none⟩ = some (.slice adu l.length cpu) := by rw [hw2]; simp
  have hor := ordered_evs l ao cap w2 (HH.out.below hB2) (by omega)
  have HW2 := hidE hw2
  clear hw2
  go_wp2_with fail
  rw [← HW2.out]
  refine hor.mono ?_
  rintro r w3 ⟨v3, rfl, hown3, hb3⟩
  clear hor
  rw [← HFS.out, HSL.out] at hown3
  obtain ⟨ad3, cp3, hv3⟩ := own_lenN hown3
  subst hv3
  have HEV := hidE hown3
  have hm3 := (hm1.below hb2).below hb3
  have hc3 := below_cell hb3 hc0
  have HLN : Hid (w3.ownsRow w0.heap.size 114 5 (.slice adu l.length cpu) l.length (ls.flatMap linC)) := own_below (own_below HOWN.out hb2 (Nat.le_refl _)) hb3 (Nat.le_refl _)
  have HB3 : Hid (Below w.heap.size w w3) := hB2.trans (hb3.mono hB2.size)
  have hmw : w.heap.size < w0.heap.size := hm0.lt
  have hs01 := hb1.size
  have hs12 := hb2.size
  have hs23 := hb3.size
  have HM3 := hidE hm3
  have hrb : w1.heap.size < w2.heap.size := World.block_lt_of_cell? _ _ hc0
  clear hown3 hm0 hm1 hm3 hb0 hb1 hb2 hb3 hB1 hB2 hc0 HOWN HW0 HW2 HH hmm
  have HC3 := hidE hc3
  clear hc3
  go_wp2
  go_loopw [17] (fun i wr => ∃ (k n : Nat) (D : DataW Value), k ≤ l.length ∧ i = .int .i64 k ∧ n ≤ k ∧ Hid (FMap wr w.heap.size n D (monsA [] ((fs.zip ls).take k))) ∧ Hid (Turned w3 wr w.heap.size nilS)) (fun i _ => l.length - (intOf i).toNat)
  case atStart => exact ⟨0, 0, _, Nat.zero_le _, rfl, Nat.le_refl _, HM3, Turned.refl _ _ _⟩
  case round =>
    obtain ⟨k, n, D, hk, rfl, hnk, HM, HT⟩ := hrel
    by_cases hlt : k < l.length
    · have hf1 := HSL.out
      have hf2 := HGO.out
      have hkf : k < fs.length := by omega
      have hkl : k < ls.length := by omega
      clear hf1 hf2
      rcases own_form HEV.out with ⟨_, a2, _⟩ | ⟨g, cp, e1, hg1, hg2, _⟩
      · omega
      rcases own_form HLN.out with ⟨_, a2, _⟩ | ⟨gl, cpl, e2, hgl1, hgl2, _⟩
      · omega
      simp only [Value.slice.injEq] at e1 e2
      obtain ⟨rfl, _, rfl⟩ := e1
      obtain ⟨rfl, _, rfl⟩ := e2
      obtain ⟨x, hx⟩ : ∃ x, x = fs[k] := ⟨_, rfl⟩
      obtain ⟨y, hy⟩ : ∃ y, y = ls[k] := ⟨_, rfl⟩
      have hxr := HRT.out x (by rw [hx]; exact List.getElem_mem _)
      have HA := hidE (HASC.out k hkf)
      rw [← hx] at HA
      have HTK : Hid (monsA [] ((fs.zip ls).take (k + 1)) = addM (monsA [] ((fs.zip ls).take k)) (dK x.day : Int) (figOf x.kind y)) := by
        show _ = _
        rw [List.take_succ_eq_append_getElem (by rw [List.length_zip]; omega), monsA_append, List.getElem_zip, hx, hy]
        rfl
      have hbl : wr.heap[g]? = w3.heap[g]? := HT.out.block g hg2 (by omega) (by simp [nilS, Value.ownBlock])
      have hbl2 : wr.heap[gl]? = w3.heap[gl]? := HT.out.block gl hgl2 (by omega) (by simp [nilS, Value.ownBlock])
      have hbl3 : wr.heap[w1.heap.size]? = w3.heap[w1.heap.size]? := HT.out.block _ (World.block_lt_of_cell? _ _ HC3.out) (by omega) (by simp [nilS, Value.ownBlock])
      have hce : ∀ j, j < 7 → wr.cell? ⟨g, k * 7 + j, none⟩ = (evC x)[j]? := fun j hj => by
        rw [World.cell?_of_block (a := ⟨g, k * 7 + j, none⟩) hbl, (own_cell evC_len HEV.out k j hkf hj).1, hx]
      have hcl : ∀ j, j < 5 → wr.cell? ⟨gl, k * 5 + j, none⟩ = (linC y)[j]? := fun j hj => by
        rw [World.cell?_of_block (a := ⟨gl, k * 5 + j, none⟩) hbl2, (own_cell linC_len HLN.out k j hkl hj).1, hy]
      have hcr := (World.cell?_of_block (a := ⟨w1.heap.size, 0, none⟩) hbl3).trans HC3.out
      have hwr3 := HT.out.size
      have hn1 : w1.heap.size ≠ wr.heap.size := by omega
      have hn2 : gl ≠ wr.heap.size := by omega
      have hn3 : w1.heap.size < wr.heap.size := by omega
      have hn4 : gl < wr.heap.size := by omega
      clear hx hy hbl hbl2 hbl3 hkf hkl
      obtain ⟨id, item, kind, qty, price, ofI, day⟩ := x
      obtain ⟨y0, y1, y2, y3, y4⟩ := y
      have q0 := hce 0 (by omega)
      have q1 := hce 1 (by omega)
      have q2 := hce 2 (by omega)
      have q3 := hce 3 (by omega)
      have q4 := hce 4 (by omega)
      have q5 := hce 5 (by omega)
      have q6 := hce 6 (by omega)
      have l0 := hcl 0 (by omega)
      have l1 := hcl 1 (by omega)
      have l2 := hcl 2 (by omega)
      have l3 := hcl 3 (by omega)
      have l4 := hcl 4 (by omega)
      simp only [evC, linC, List.getElem?_cons_zero, List.getElem?_cons_succ, Nat.add_zero] at q0 q1 q2 q3 q4 q5 q6 l0 l1 l2 l3 l4
      clear hce hcl
      have hd := hxr.2.1
      simp only at hd HTK HA
      obtain ⟨W1, hW1⟩ : ∃ W, W = (wr.alloc (.cells #[.int .i64 id, .string item, .int .i64 kind, .int .i64 qty, .int .i64 price, .int .i64 ofI, .int .i64 day] 44)).alloc (.cells #[.int .i64 y0, .int .i64 y1, .int .i64 y2, .int .i64 y3, .bool y4] 114) := ⟨_, rfl⟩
      have hmo := rmonth_ok day W1 hd.1 hd.2
      have HW1 := hidE hW1
      clear hW1
      go_wp2_with fail
      rw [← HW1.out]
      refine hmo.mono ?_
      rintro r w' ⟨rfl, hw'⟩
      subst w'
      clear hmo q0 q1 q2 q3 q4 q5 q6 l0 l1 l2 l3 l4 hcr
      have d2 : W1.cell? ⟨wr.heap.size, 2, none⟩ = some (.int .i64 kind) := by rw [HW1.out]; exact (((Below.refl _ _).alloc (Nat.le_refl _) _).cell (p := ⟨wr.heap.size, 2, none⟩) (by simp)).trans (by simp)
      have e1 : W1.cell? ⟨wr.heap.size + 1, 1, none⟩ = some (.int .i64 y1) := by
        have h : (wr.alloc (.cells #[.int .i64 id, .string item, .int .i64 kind, .int .i64 qty, .int .i64 price, .int .i64 ofI, .int .i64 day] 44)).heap.size = wr.heap.size + 1 := by simp
        rw [HW1.out, ← h]; simp
      have e3 : W1.cell? ⟨wr.heap.size + 1, 3, none⟩ = some (.int .i64 y3) := by
        have h : (wr.alloc (.cells #[.int .i64 id, .string item, .int .i64 kind, .int .i64 qty, .int .i64 price, .int .i64 ofI, .int .i64 day] 44)).heap.size = wr.heap.size + 1 := by simp
        rw [HW1.out, ← h]; simp
      have e4 : W1.cell? ⟨wr.heap.size + 1, 4, none⟩ = some (.bool y4) := by
        have h : (wr.alloc (.cells #[.int .i64 id, .string item, .int .i64 kind, .int .i64 qty, .int .i64 price, .int .i64 ofI, .int .i64 day] 44)).heap.size = wr.heap.size + 1 := by simp
        rw [HW1.out, ← h]; simp
      have hz1 : W1.heap.size = wr.heap.size + 2 := by rw [HW1.out]; simp
      have hbr : Below wr.heap.size wr W1 := by rw [HW1.out]; exact ((Below.refl _ _).alloc (Nat.le_refl _) _).alloc (by simp) _
      have HBR := hidE hbr
      clear hbr HW1
      obtain ⟨N, hN⟩ : ∃ N, N = dK day := ⟨_, rfl⟩
      have hNle : N ≤ 3285 := by rw [hN]; exact dK_le hd.1 hd.2
      rw [← hN] at HTK HA ⊢
      clear hN
      obtain ⟨F, hF⟩ : ∃ F, F = figOf kind ⟨y0, y1, y2, y3, y4⟩ := ⟨_, rfl⟩
      rw [← hF] at HTK
      have HF := hidE hF
      clear hF
      have hn5 : wr.heap.size ≠ W1.heap.size := by omega
      have hn6 : wr.heap.size + 1 ≠ W1.heap.size := by omega
      have hn7 : wr.heap.size < W1.heap.size := by omega
      have hn8 : wr.heap.size + 1 < W1.heap.size := by omega
      have HZ1 := hidE hz1
      clear hz1 hn1 hn2 hn3 hn4
      obtain ⟨ms, hms⟩ : ∃ m, m = monsA [] ((fs.zip ls).take k) := ⟨_, rfl⟩
      rw [← hms] at HM HA HTK
      clear hms
      have hNw : (Lit.int .i64 (N : Int)).wf = true := wf_ofR (by omega) (by omega)
      have hkk := rtK_kindR hxr.2.2
      simp only at hkk
      by_cases k3 : kind < 3
      · have hk12 : kind = 1 ∨ kind = 2 := by omega
        have hFe : F = ⟨y1, 0, 0, 0, y3⟩ := by
          have h := HF.out
          rw [h]
          unfold figOf; rw [if_pos hk12]
        clear HF
        subst hFe
        obtain ⟨W4, hW4⟩ : ∃ W, W = W1.alloc (.cells #[.int .i64 y1, .int .i64 0, .int .i64 0, .int .i64 0, .int .i64 y3] 38) := ⟨_, rfl⟩
        have hb4 : Below wr.heap.size wr W4 := by rw [hW4]; exact HBR.out.trans (((Below.refl _ _).alloc (Nat.le_refl _) _).mono HBR.out.size)
        have hm4 := HM.out.below hb4
        have hlk := hm4.look N hNw
        rw [hW4] at hlk
        obtain ⟨mf, hmf⟩ : ∃ m, m = fAt N ms := ⟨_, rfl⟩
        rw [← hmf] at hlk
        have HMF := hidE hmf
        clear hmf
        have hadd := radd_plus mf ⟨y1, 0, 0, 0, y3⟩ W4
        obtain ⟨R, hR⟩ : ∃ R, R = mf.plus ⟨y1, 0, 0, 0, y3⟩ := ⟨_, rfl⟩
        rw [← hR] at hadd
        have HRR := hidE hR
        obtain ⟨m1, m2, m3, m4, m5⟩ := mf
        obtain ⟨R1, R2, R3, R4, R5⟩ := R
        unfold figV at hlk hadd
        simp only at hlk hadd
        have HW4 := hidE hW4
        have HM4 := hidE hm4
        have HB4 := hidE hb4
        clear hR hW4 hm4 hb4
        go_wp2_with fail
        rw [← HW4.out]
        refine hadd.mono ?_
        rintro r w5 ⟨rfl, hb5⟩
        have HB5 : Hid (Below wr.heap.size wr w5) := HB4.out.trans (hb5.mono HB4.out.size)
        have HM5 := hidE (HM4.out.below hb5)
        clear hadd hlk hb5
        go_wp2_with (first
          | (at_mapUpdate; refine wpList_mapUpdate_own _ rfl _ _ _ 57 rfl 3 38 law_intM Tryz.underlying57 heldE w.heap.size n D rfl HM5.out.map (by unfold maxLen; omega) _ _ (.int .i64 (N : Int)) rfl rfl (key_intM N hNw) (.held (figV ⟨R1, R2, R3, R4, R5⟩)) [] rfl ?_)
          | go_in)
        intro w6 hm6 hg6
        have HM6 : Hid (FMap w6 w.heap.size (n + 1) (D.put (.int .i64 (N : Int)) (.held (figV ⟨R1, R2, R3, R4, R5⟩))) (monsA [] ((fs.zip ls).take (k + 1)))) := by
          show FMap _ _ _ _ _
          rw [HTK.out]
          have h := @FMap.put _ w6 _ _ _ _ _ _ ⟨y1, 0, 0, 0, y3⟩ HM5.out HA.out (Int.le_refl _)
          rw [← HMF.out, ← HRR.out] at h
          exact h hm6
        have HT6 : Hid (Turned w3 w6 w.heap.size nilS) := (turned_below HT.out HB5.out).trans (turned_grown hg6) (Fresh.refl _ _)
        clear hm6 hg6
        go_wp2
        go_roundw
        case rel => exact ⟨k + 1, n + 1, _, by omega, by go_num, by omega, HM6, HT6⟩
        case measure => simp [intOf]; omega
      · have hk12 : ¬ (kind = 1 ∨ kind = 2) := by omega
        by_cases k4 : kind = 3
        · subst k4
          have hFe : F = ⟨0, y1, 0, 0, y3⟩ := by
            have h := HF.out
            rw [h]
            unfold figOf; rw [if_neg hk12, if_pos rfl]
          clear HF
          subst hFe
          obtain ⟨W4, hW4⟩ : ∃ W, W = W1.alloc (.cells #[.int .i64 0, .int .i64 y1, .int .i64 0, .int .i64 0, .int .i64 y3] 38) := ⟨_, rfl⟩
          have hb4 : Below wr.heap.size wr W4 := by rw [hW4]; exact HBR.out.trans (((Below.refl _ _).alloc (Nat.le_refl _) _).mono HBR.out.size)
          have hm4 := HM.out.below hb4
          have hlk := hm4.look N hNw
          rw [hW4] at hlk
          obtain ⟨mf, hmf⟩ : ∃ m, m = fAt N ms := ⟨_, rfl⟩
          rw [← hmf] at hlk
          have HMF := hidE hmf
          clear hmf
          have hadd := radd_plus mf ⟨0, y1, 0, 0, y3⟩ W4
          obtain ⟨R, hR⟩ : ∃ R, R = mf.plus ⟨0, y1, 0, 0, y3⟩ := ⟨_, rfl⟩
          rw [← hR] at hadd
          have HRR := hidE hR
          obtain ⟨m1, m2, m3, m4, m5⟩ := mf
          obtain ⟨R1, R2, R3, R4, R5⟩ := R
          unfold figV at hlk hadd
          simp only at hlk hadd
          have HW4 := hidE hW4
          have HM4 := hidE hm4
          have HB4 := hidE hb4
          clear hR hW4 hm4 hb4
          go_wp2_with fail
          rw [← HW4.out]
          refine hadd.mono ?_
          rintro r w5 ⟨rfl, hb5⟩
          have HB5 : Hid (Below wr.heap.size wr w5) := HB4.out.trans (hb5.mono HB4.out.size)
          have HM5 := hidE (HM4.out.below hb5)
          clear hadd hlk hb5
          go_wp2_with (first
            | (at_mapUpdate; refine wpList_mapUpdate_own _ rfl _ _ _ 57 rfl 3 38 law_intM Tryz.underlying57 heldE w.heap.size n D rfl HM5.out.map (by unfold maxLen; omega) _ _ (.int .i64 (N : Int)) rfl rfl (key_intM N hNw) (.held (figV ⟨R1, R2, R3, R4, R5⟩)) [] rfl ?_)
            | go_in)
          intro w6 hm6 hg6
          have HM6 : Hid (FMap w6 w.heap.size (n + 1) (D.put (.int .i64 (N : Int)) (.held (figV ⟨R1, R2, R3, R4, R5⟩))) (monsA [] ((fs.zip ls).take (k + 1)))) := by
            show FMap _ _ _ _ _
            rw [HTK.out]
            have h := @FMap.put _ w6 _ _ _ _ _ _ ⟨0, y1, 0, 0, y3⟩ HM5.out HA.out (Int.le_refl _)
            rw [← HMF.out, ← HRR.out] at h
            exact h hm6
          have HT6 : Hid (Turned w3 w6 w.heap.size nilS) := (turned_below HT.out HB5.out).trans (turned_grown hg6) (Fresh.refl _ _)
          clear hm6 hg6
          go_wp2
          go_roundw
          case rel => exact ⟨k + 1, n + 1, _, by omega, by go_num, by omega, HM6, HT6⟩
          case measure => simp [intOf]; omega
        · have k4' : (kind == 3) = false := by simpa using k4
          cases y4
          · have hFe : F = ⟨0, 0, y1, 0, y3⟩ := by
              have h := HF.out
              rw [h]
              unfold figOf; rw [if_neg hk12, if_neg k4]; rfl
            clear HF
            subst hFe
            obtain ⟨W4, hW4⟩ : ∃ W, W = W1.alloc (.cells #[.int .i64 0, .int .i64 0, .int .i64 y1, .int .i64 0, .int .i64 y3] 38) := ⟨_, rfl⟩
            have hb4 : Below wr.heap.size wr W4 := by rw [hW4]; exact HBR.out.trans (((Below.refl _ _).alloc (Nat.le_refl _) _).mono HBR.out.size)
            have hm4 := HM.out.below hb4
            have hlk := hm4.look N hNw
            rw [hW4] at hlk
            obtain ⟨mf, hmf⟩ : ∃ m, m = fAt N ms := ⟨_, rfl⟩
            rw [← hmf] at hlk
            have HMF := hidE hmf
            clear hmf
            have hadd := radd_plus mf ⟨0, 0, y1, 0, y3⟩ W4
            obtain ⟨R, hR⟩ : ∃ R, R = mf.plus ⟨0, 0, y1, 0, y3⟩ := ⟨_, rfl⟩
            rw [← hR] at hadd
            have HRR := hidE hR
            obtain ⟨m1, m2, m3, m4, m5⟩ := mf
            obtain ⟨R1, R2, R3, R4, R5⟩ := R
            unfold figV at hlk hadd
            simp only at hlk hadd
            have HW4 := hidE hW4
            have HM4 := hidE hm4
            have HB4 := hidE hb4
            clear hR hW4 hm4 hb4
            go_wp2_with fail
            rw [← HW4.out]
            refine hadd.mono ?_
            rintro r w5 ⟨rfl, hb5⟩
            have HB5 : Hid (Below wr.heap.size wr w5) := HB4.out.trans (hb5.mono HB4.out.size)
            have HM5 := hidE (HM4.out.below hb5)
            clear hadd hlk hb5
            go_wp2_with (first
              | (at_mapUpdate; refine wpList_mapUpdate_own _ rfl _ _ _ 57 rfl 3 38 law_intM Tryz.underlying57 heldE w.heap.size n D rfl HM5.out.map (by unfold maxLen; omega) _ _ (.int .i64 (N : Int)) rfl rfl (key_intM N hNw) (.held (figV ⟨R1, R2, R3, R4, R5⟩)) [] rfl ?_)
              | go_in)
            intro w6 hm6 hg6
            have HM6 : Hid (FMap w6 w.heap.size (n + 1) (D.put (.int .i64 (N : Int)) (.held (figV ⟨R1, R2, R3, R4, R5⟩))) (monsA [] ((fs.zip ls).take (k + 1)))) := by
              show FMap _ _ _ _ _
              rw [HTK.out]
              have h := @FMap.put _ w6 _ _ _ _ _ _ ⟨0, 0, y1, 0, y3⟩ HM5.out HA.out (Int.le_refl _)
              rw [← HMF.out, ← HRR.out] at h
              exact h hm6
            have HT6 : Hid (Turned w3 w6 w.heap.size nilS) := (turned_below HT.out HB5.out).trans (turned_grown hg6) (Fresh.refl _ _)
            clear hm6 hg6
            go_wp2
            go_roundw
            case rel => exact ⟨k + 1, n + 1, _, by omega, by go_num, by omega, HM6, HT6⟩
            case measure => simp [intOf]; omega
          · have hFe : F = ⟨0, 0, 0, y1, y3⟩ := by
              have h := HF.out
              rw [h]
              unfold figOf; rw [if_neg hk12, if_neg k4]; rfl
            clear HF
            subst hFe
            obtain ⟨W4, hW4⟩ : ∃ W, W = W1.alloc (.cells #[.int .i64 0, .int .i64 0, .int .i64 0, .int .i64 y1, .int .i64 y3] 38) := ⟨_, rfl⟩
            have hb4 : Below wr.heap.size wr W4 := by rw [hW4]; exact HBR.out.trans (((Below.refl _ _).alloc (Nat.le_refl _) _).mono HBR.out.size)
            have hm4 := HM.out.below hb4
            have hlk := hm4.look N hNw
            rw [hW4] at hlk
            obtain ⟨mf, hmf⟩ : ∃ m, m = fAt N ms := ⟨_, rfl⟩
            rw [← hmf] at hlk
            have HMF := hidE hmf
            clear hmf
            have hadd := radd_plus mf ⟨0, 0, 0, y1, y3⟩ W4
            obtain ⟨R, hR⟩ : ∃ R, R = mf.plus ⟨0, 0, 0, y1, y3⟩ := ⟨_, rfl⟩
            rw [← hR] at hadd
            have HRR := hidE hR
            obtain ⟨m1, m2, m3, m4, m5⟩ := mf
            obtain ⟨R1, R2, R3, R4, R5⟩ := R
            unfold figV at hlk hadd
            simp only at hlk hadd
            have HW4 := hidE hW4
            have HM4 := hidE hm4
            have HB4 := hidE hb4
            clear hR hW4 hm4 hb4
            go_wp2_with fail
            rw [← HW4.out]
            refine hadd.mono ?_
            rintro r w5 ⟨rfl, hb5⟩
            have HB5 : Hid (Below wr.heap.size wr w5) := HB4.out.trans (hb5.mono HB4.out.size)
            have HM5 := hidE (HM4.out.below hb5)
            clear hadd hlk hb5
            go_wp2_with (first
              | (at_mapUpdate; refine wpList_mapUpdate_own _ rfl _ _ _ 57 rfl 3 38 law_intM Tryz.underlying57 heldE w.heap.size n D rfl HM5.out.map (by unfold maxLen; omega) _ _ (.int .i64 (N : Int)) rfl rfl (key_intM N hNw) (.held (figV ⟨R1, R2, R3, R4, R5⟩)) [] rfl ?_)
              | go_in)
            intro w6 hm6 hg6
            have HM6 : Hid (FMap w6 w.heap.size (n + 1) (D.put (.int .i64 (N : Int)) (.held (figV ⟨R1, R2, R3, R4, R5⟩))) (monsA [] ((fs.zip ls).take (k + 1)))) := by
              show FMap _ _ _ _ _
              rw [HTK.out]
              have h := @FMap.put _ w6 _ _ _ _ _ _ ⟨0, 0, 0, y1, y3⟩ HM5.out HA.out (Int.le_refl _)
              rw [← HMF.out, ← HRR.out] at h
              exact h hm6
            have HT6 : Hid (Turned w3 w6 w.heap.size nilS) := (turned_below HT.out HB5.out).trans (turned_grown hg6) (Fresh.refl _ _)
            clear hm6 hg6
            go_wp2
            go_roundw
            case rel => exact ⟨k + 1, n + 1, _, by omega, by go_num, by omega, HM6, HT6⟩
            case measure => simp [intOf]; omega
    · obtain rfl : k = l.length := by omega
      have HZL : Hid (monsA [] ((fs.zip ls).take l.length) = mons l) := by
        show _ = _
        have h1 := HSL.out
        have h2 := HGO.out
        rw [HMS.out, List.take_of_length_le (by rw [List.length_zip]; omega)]
      have hwz := HT.out.size
      go_wp2
      go_ret
      exact ⟨w.heap.size, n, D, rfl, by have h := HM.out; rw [HZL.out] at h; exact h, Nat.le_refl _, by omega, below_turned HB3.out (Nat.le_refl _) (by omega) HT.out⟩
end Go.Proofs.YtcfgacdcgljbaaaGreatDoor
namespace Go.Proofs.YtcfgacdcgljbaaaGreatDoor
open Go.RowKit Go.Maps
/-- What has been seen of a map of months, and what is left. -/
structure SeenI (D : DataW Value) (left : Lit → Bool) (S : List Int) : Prop where
  nd : S.Nodup
  gone : ∀ x ∈ S, left (.int .i64 x) = false
  all : ∀ x : Int, has D (.int .i64 x) = true → left (.int .i64 x) = true ∨ x ∈ S
  only : ∀ x ∈ S, has D (.int .i64 x) = true
theorem keyI_key (x : Int) : WideAt.IsKeyLit (.int .i64 x) := trivial
theorem seenI_zero (D : DataW Value) : SeenI D (has D) [] := ⟨List.nodup_nil, by simp, fun _ h => Or.inl h, by simp⟩
theorem SeenI.step {D : DataW Value} {left : Lit → Bool} {S : List Int} (h : SeenI D left S) {x : Int} (hx : left (.int .i64 x) = true) (hd : has D (.int .i64 x) = true) : SeenI D (fun z => left z && !z.sameKey (.int .i64 x)) (S ++ [x]) := by
  have hn : x ∉ S := fun hm => by rw [h.gone x hm] at hx; cases hx
  refine ⟨?_, fun y hy => ?_, fun y hy => ?_, fun y hy => ?_⟩
  · rw [List.nodup_append]
    refine ⟨h.nd, by simp, fun a ha b hb e => ?_⟩
    rw [List.mem_singleton] at hb
    subst hb
    exact hn (e ▸ ha)
  · rcases List.mem_append.1 hy with hy | hy
    · simp only [h.gone y hy, Bool.false_and]
    · rw [List.mem_singleton] at hy
      subst hy
      simp only [WideAt.sameKey_self (keyI_key _), Bool.not_true, Bool.and_false]
  · rcases h.all y hy with hl | hm
    · by_cases e : y = x
      · exact Or.inr (by simp [e])
      · exact Or.inl (by simp only [hl, sameKey_ne (fun a => e (by injection a) : (Lit.int .i64 y) ≠ Lit.int .i64 x), Bool.not_false, Bool.and_true])
    · exact Or.inr (by simp [hm])
  · rcases List.mem_append.1 hy with hy | hy
    · exact h.only y hy
    · rw [List.mem_singleton] at hy; subst hy; exact hd
theorem ranges_onI {P : Program} {k : TypeId} {R : Value → Option (DataW Value × List MemPlace)} {w w' : World} {b r n cnt : Nat} {D : DataW Value} {left : Lit → Bool} (h : w.ranges P k R b r n D left cnt) (hb : Below w.heap.size w w') : w'.ranges P k R b r n D left cnt := by
  have hg : w.grownBy w' none := ⟨hb.os, hb.tape, hb.output, hb.size, fun j hj _ => hb.block j hj⟩
  exact h.kept hg (by simp) (by simp)
/-- What the months seen so far come to. -/
def seenF (m : Int) (ms : List Mon) (S : List Int) : Fig := upto m fig0 (S.map fun x => (⟨x, fAt x ms⟩ : Mon))
theorem seenF_snoc (m : Int) (ms : List Mon) (S : List Int) (x : Int) : seenF m ms (S ++ [x]) = if x ≤ m then (seenF m ms S).plus (fAt x ms) else seenF m ms S := by
  unfold seenF
  rw [List.map_append, upto_append]
  rfl
theorem seenF_end {W : World} {mb n : Nat} {D : DataW Value} {l : List Ev} (h : FMap W mb n D (mons l)) {left : Lit → Bool} {S : List Int} (hs : SeenI D left S) (hl : ∀ kl, left kl = false) (m : Int) : seenF m (mons l) S = untl l m := by
  unfold seenF untl
  refine upto_perm m (perm_of (mons_asc l) hs.nd fun x => ?_) _
  rw [← h.has_ x]
  constructor
  · exact hs.only x
  · intro hx
    rcases hs.all x hx with h1 | h1
    · rw [hl] at h1; cases h1
    · exact h1
set_option maxRecDepth 100000 in
set_option maxHeartbeats 8000000 in
theorem runtil_any (l : List Ev) (ao : Option Addr) (cap : Nat) (m : Int) (w : World) (h : EvsC w ao l) (hw : ∀ e ∈ l, EvW e) (hr : ∀ e ∈ l, Rt e) (hl : l.length ≤ 200) (hgl : TabG w) :
    Calls Tryz.prog 18 #[.slice ao l.length cap, .int .i64 m] w fun r w' => r = .returned (figV (untl l m)) ∧ Below w.heap.size w w' := by
  obtain ⟨W0, hW0⟩ : ∃ W, W = (w.alloc (.cells #[.int .i64 0, .int .i64 0, .int .i64 0, .int .i64 0, .int .i64 0] 38)).alloc (.cells #[.int .i64 0, .int .i64 0, .int .i64 0, .int .i64 0, .int .i64 0] 38) := ⟨_, rfl⟩
  have hb0 : Below w.heap.size w W0 := by rw [hW0]; exact ((Below.refl _ _).alloc (Nat.le_refl _) _).alloc (by simp) _
  have hs0 : W0.heap.size = w.heap.size + 2 := by rw [hW0]; simp
  have hR0 : FigAt W0 w.heap.size fig0 := by rw [hW0]; exact (fig_new w).below ((Below.refl _ _).alloc (Nat.le_refl _) _)
  have hF0 : FigAt W0 (w.heap.size + 1) fig0 := by
    rw [hW0]
    have := fig_new (w.alloc (.cells #[.int .i64 0, .int .i64 0, .int .i64 0, .int .i64 0, .int .i64 0] 38))
    simpa using this
  have hmo := rmonths_any l ao cap W0 (h.below hb0) hw hr hl (hgl.below hb0)
  have HW0 : Hid (W0 = _) := hW0
  obtain ⟨U, hU⟩ : ∃ U, U = untl l m := ⟨_, rfl⟩
  have HU : Hid (U = untl l m) := hU
  rw [← hU]
  clear h hw hr hgl hW0 hU
  obtain ⟨u1, u2, u3, u4, u5⟩ := U
  unfold figV
  simp only
  go_enter Tryz.func18, Tryz.ntmps18
  go_wp2_with fail
  rw [← HW0.out]
  refine hmo.mono ?_
  rintro r w1 ⟨mb, n, D, rfl, hfm, hmb, hn, hb1⟩
  have HFM := hidE hfm
  have HR1 : Hid (FigAt w1 w.heap.size fig0) := hR0.below hb1
  have HF1 : Hid (FigAt w1 (w.heap.size + 1) fig0) := hF0.below hb1
  have HB1 : Hid (Below w.heap.size w w1) := hb0.trans (hb1.mono hb0.size)
  have hs1 : w.heap.size + 2 ≤ w1.heap.size := by have := hb1.size; omega
  have hmb2 : w.heap.size + 2 ≤ mb := by omega
  have hmlt := hfm.lt
  have HS0 := hidE hs0
  clear hmo hfm hb1 HW0 hR0 hF0 hb0 hmb hs0
  go_wp2_with (first
    | (at_range; refine wpList_range_own _ rfl _ 57 rfl 3 38 law_intM Tryz.underlying57 heldE mb n D rfl HFM.out.map ?_)
    | go_in)
  intro wR hrg0 hg0 hsR
  have HR0 : Hid (wR.ranges Tryz.prog 3 heldE mb w1.heap.size n D (Maps.has D) (Maps.size D)) := hrg0
  have HTR : Hid (Turned w1 wR (w.heap.size + 1) nilS) := Turned.of_below ⟨hg0.os, hg0.tape, hg0.output, hg0.size, fun j hj => hg0.block j hj (by simp)⟩
  have HFR : Hid (FigAt wR (w.heap.size + 1) (seenF m (mons l) [])) := HF1.out.same (hg0.block _ (by omega) (by simp))
  clear hrg0 hg0 hsR
  go_wp2
  go_loopw [] (fun wr => ∃ (left : Lit → Bool) (cnt : Nat) (S : List Int), Hid (SeenI D left S) ∧ Hid (wr.ranges Tryz.prog 3 heldE mb w1.heap.size n D left cnt) ∧ Hid (FigAt wr (w.heap.size + 1) (seenF m (mons l) S)) ∧ Hid (Turned w1 wr (w.heap.size + 1) nilS)) (fun wr => wr.rangeLeft mb w1.heap.size)
  case atStart => exact ⟨_, _, [], seenI_zero D, HR0, HFR, HTR⟩
  case round =>
    obtain ⟨left, cnt, S, HSN, HR, HF, HT⟩ := hrel
    go_wp2_with (at_next; refine wpList_next_ranges _ rfl _ rfl 3 law_intM heldE (Value.int .i64) (fun c : Value => c) (fun key kl hkey => by obtain ⟨s, hs, _⟩ := Maps.keyOf_int_inv Tryz.underlying3 hkey; exact ⟨s, hs⟩) (fun v y _ => ⟨v, rfl⟩) mb w1.heap.size n D left cnt rfl HR.out ?_ ?_)
    · intro hcz hlz
      have HE := hidE (seenF_end HFM.out HSN.out hlz m)
      rw [HE.out, ← HU.out] at HF
      clear hcz hlz HE
      have hwz := HT.out.size
      have hR := HR1.out.same (HT.out.block w.heap.size (by omega) (by omega) (by simp [nilS, Value.ownBlock]))
      have d0 := hR.c0
      have d1 := hR.c1
      have d2 := hR.c2
      have d3 := hR.c3
      have d4 := hR.c4
      have e0 := hR.z0
      have e1 := hR.z1
      have e2 := hR.z2
      have e3 := hR.z3
      have e4 := hR.z4
      have c0 := HF.out.c0
      have c1 := HF.out.c1
      have c2 := HF.out.c2
      have c3 := HF.out.c3
      have c4 := HF.out.c4
      have HG := (hR.put ⟨u1, u2, u3, u4, u5⟩)
      have hB1 := HB1.out
      have hBF : Below w.heap.size w (set5 wr w.heap.size ⟨u1, u2, u3, u4, u5⟩) := by
        refine ⟨(set5_oth _ _ _).1.trans (HT.out.os.trans hB1.os), (set5_oth _ _ _).2.1.trans (HT.out.tape.trans hB1.tape), (set5_oth _ _ _).2.2.trans (HT.out.output.trans hB1.output), ?_, fun j hj => ?_⟩
        · rw [set5_size]; omega
        · rw [set5_other _ _ _ (by omega), HT.out.block j (by omega) (by omega) (by simp [nilS, Value.ownBlock])]
          exact hB1.block j hj
      have g0 := HG.c0
      have g1 := HG.c1
      have g2 := HG.c2
      have g3 := HG.c3
      have g4 := HG.c4
      unfold set5 at g0 g1 g2 g3 g4
      simp only [fig0] at d0 d1 d2 d3 d4
      simp only at c0 c1 c2 c3 c4 g0 g1 g2 g3 g4
      have HGG := hidE (And.intro g0 (And.intro g1 (And.intro g2 (And.intro g3 g4))))
      have HBF := hidE hBF
      clear g0 g1 g2 g3 g4 HG hR hBF hB1
      go_wp2
      obtain ⟨g0, g1, g2, g3, g4⟩ := HGG.out
      refine bodyPost_ret (v := .agg #[.int .i64 u1, .int .i64 u2, .int .i64 u3, .int .i64 u4, .int .i64 u5]) (by simp [results, Tryz.results18, go_sem, g0, g1, g2, g3, g4]) rfl ⟨rfl, HBF.out⟩
    · intro x c kl yd yp w2 cnt2 hkey hlk hcv hat hrg2 hlt2 hgr2 hsz2 hen
      obtain ⟨x', hx', rfl, hxw⟩ := Maps.keyOf_int_inv Tryz.underlying3 hkey
      cases hx'
      have hcx : c = figV (fAt x (mons l)) := by
        have h1 := HFM.out.at_ x
        rw [hat, heldE_inv hcv] at h1
        exact held_inj h1
      have hhas : has D (.int .i64 x) = true := has_true_of_atKey hat
      have HSN2 := hidE (HSN.out.step hlk hhas)
      have HSF := hidE (seenF_snoc m (mons l) S x)
      obtain ⟨cf, hcf⟩ : ∃ f, f = fAt x (mons l) := ⟨_, rfl⟩
      rw [← hcf] at hcx HSF
      clear hcf
      obtain ⟨x1, x2, x3, x4, x5⟩ := cf
      unfold figV at hcx
      simp only at hcx
      subst hcx
      have hnb : w.heap.size + 1 ≠ w1.heap.size := by omega
      have HF2 : Hid (FigAt w2 (w.heap.size + 1) (seenF m (mons l) S)) := HF.out.same (hgr2.block _ HF.out.lt (fun e => hnb (by injection e)))
      have HR2 : Hid (w2.ranges Tryz.prog 3 heldE mb w1.heap.size n D (fun z => left z && !z.sameKey (.int .i64 x)) cnt2) := hrg2
      have hwz := HT.out.size
      have HT2 : Hid (Turned w1 w2 (w.heap.size + 1) nilS) := ⟨hgr2.os.trans HT.out.os, hgr2.tape.trans HT.out.tape, hgr2.output.trans HT.out.output, Nat.le_trans HT.out.size hgr2.size, fun j hj hne hno => (hgr2.block j (by omega) (fun e => by injection e with e; omega)).trans (HT.out.block j hj hne hno)⟩
      have HLV : Hid (wr.rangeLeft mb w1.heap.size = cnt) := HR.out.left_eq
      obtain ⟨f, hf⟩ : ∃ f, f = seenF m (mons l) S := ⟨_, rfl⟩
      rw [← hf] at HF2 HSF
      clear hf hrg2 hat hcv hlk hkey hgr2 hhas
      obtain ⟨W3, hW3⟩ : ∃ W, W = w2.alloc (.cells #[.int .i64 x1, .int .i64 x2, .int .i64 x3, .int .i64 x4, .int .i64 x5] 38) := ⟨_, rfl⟩
      have hb3 : Below w2.heap.size w2 W3 := by rw [hW3]; exact (Below.refl _ _).alloc (Nat.le_refl _) _
      have hF3 := HF2.out.below hb3
      have HT3 := hidE (turned_below HT2.out hb3)
      have HR3 := hidE (ranges_onI HR2.out hb3)
      by_cases hc : x ≤ m
      · rw [if_pos hc] at HSF
        have hpl := radd_plus f ⟨x1, x2, x3, x4, x5⟩ W3
        obtain ⟨R, hR⟩ : ∃ R, R = f.plus ⟨x1, x2, x3, x4, x5⟩ := ⟨_, rfl⟩
        rw [← hR] at hpl HSF
        have c0 := hF3.c0
        have c1 := hF3.c1
        have c2 := hF3.c2
        have c3 := hF3.c3
        have c4 := hF3.c4
        rw [hW3] at c0 c1 c2 c3 c4
        have HF3 := hidE hF3
        obtain ⟨f1, f2, f3, f4, f5⟩ := f
        obtain ⟨R1, R2, R3, R4, R5⟩ := R
        unfold figV at hpl
        simp only at hpl c0 c1 c2 c3 c4
        have HW3 : Hid (W3 = _) := hW3
        clear hF3 hW3 hR hb3
        go_wp2_with fail
        rw [← HW3.out]
        refine hpl.mono ?_
        rintro r w4 ⟨rfl, hb4⟩
        have hF4 := HF3.out.below hb4
        have d0 := hF4.c0
        have d1 := hF4.c1
        have d2 := hF4.c2
        have d3 := hF4.c3
        have d4 := hF4.c4
        have e0 := hF4.z0
        have e1 := hF4.z1
        have e2 := hF4.z2
        have e3 := hF4.z3
        have e4 := hF4.z4
        simp only at d0 d1 d2 d3 d4
        have HF5 : Hid (FigAt (set5 w4 (w.heap.size + 1) ⟨R1, R2, R3, R4, R5⟩) (w.heap.size + 1) ⟨R1, R2, R3, R4, R5⟩) := hF4.put _
        have HT5 : Hid (Turned w1 (set5 w4 (w.heap.size + 1) ⟨R1, R2, R3, R4, R5⟩) (w.heap.size + 1) nilS) := (turned_below HT3.out hb4).trans (turned_set5 _ _ _ _) (Fresh.refl _ _)
        have HR5 : Hid ((set5 w4 (w.heap.size + 1) ⟨R1, R2, R3, R4, R5⟩).ranges Tryz.prog 3 heldE mb w1.heap.size n D (fun z => left z && !z.sameKey (.int .i64 x)) cnt2) := by
          refine (ranges_onI HR3.out hb4).kept (row := some (w.heap.size + 1)) ?_ (by intro e; injection e; omega) (by intro e; injection e; omega)
          exact ⟨(set5_oth _ _ _).1, (set5_oth _ _ _).2.1, (set5_oth _ _ _).2.2, by rw [set5_size]; exact Nat.le_refl _, fun j _ hne => set5_other _ _ _ (fun e => hne (by rw [e]))⟩
        clear hpl hF4 c0 c1 c2 c3 c4 hb4
        go_wp2
        go_roundw
        case rel =>
          refine ⟨_, cnt2, S ++ [x], HSN2, HR5, ?_, HT5⟩
          show FigAt _ _ _
          rw [HSF.out]
          exact HF5.out
        case measure =>
          rw [HLV.out]
          have h := HR5.out.left_eq
          unfold set5 at h
          rw [h]
          exact hlt2
      · rw [if_neg hc] at HSF
        have HF3 : Hid (FigAt W3 (w.heap.size + 1) (seenF m (mons l) (S ++ [x]))) := by rw [HSF.out]; exact hF3
        rw [hW3] at HF3 HT3 HR3
        clear hF3 hW3 hb3
        go_wp2
        go_roundw
        case rel => exact ⟨_, cnt2, S ++ [x], HSN2, HR3, HF3, HT3⟩
        case measure =>
          rw [HLV.out, HR3.out.left_eq]
          exact hlt2
end Go.Proofs.YtcfgacdcgljbaaaGreatDoor
