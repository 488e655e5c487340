/- The walk of report.Diff. -/
import Derived.Test.YtcfgacdcgljbaaaGreatBnO
import Derived.Test.YtcfgacdcgljbaaaGreatIter
namespace Go.Proofs.YtcfgacdcgljbaaaGreat
open Go.RowKit Go.Maps Go.Shelf
def chgZ : Value := .agg #[.string ⟨#[]⟩, .int .i64 0, .int .i64 0]
theorem chg_info : (Tryz.prog.info? 85).map (fun i => (i.zero, i.size, i.bytes)) = some (some chgZ, 3, 32) := by kernel_rfl
theorem dfC_one (M N : Stks) (p : ByteArray) : ∀ u ∈ dfC M N p, u.oneCell' = true := by
  intro u hu
  simp only [dfC, List.mem_cons, List.not_mem_nil, or_false] at hu
  rcases hu with rfl | rfl | rfl <;> rfl
set_option maxRecDepth 20000 in
set_option maxHeartbeats 4000000 in
theorem rediff_any {B pb : Nat} {sv : Value} {b : Bk} {w : World} (h : BookAt w B pb sv b) (hl : b.vs.length ≤ 1000) (n t1 t2 : Int) (hw1 : ∀ e ∈ evUp b n t1, EvW e) (hw2 : ∀ e ∈ evUp b n t2, EvW e) :
    Calls Tryz.prog 16 #[.pointer (some ⟨pb, 0, none⟩), .int .i64 n, .int .i64 t1, .int .i64 t2] w fun r w' => ∃ (u : Value) (cs : List ByteArray), r = .returned u ∧ Keys (fun z => dfQ (stUp b n t2) (stUp b n t1) z ≠ 0 ∨ dfV (stUp b n t2) (stUp b n t1) z ≠ 0) cs ∧ w'.ownsRow w.heap.size 85 3 u cs.length (cs.flatMap (dfC (stUp b n t2) (stUp b n t1))) ∧ Below w.heap.size w w' := by
  have hmm := @run_makeMap Tryz.prog
  obtain ⟨i0, hi, hz0, hz1, hz2⟩ := info_parts chg_info
  obtain ⟨W0, hW0⟩ : ∃ W, W = w.alloc (.map #[] 0) := ⟨_, rfl⟩
  have hb0 : Below w.heap.size w W0 := by rw [hW0]; exact (Below.refl _ _).alloc (Nat.le_refl _) _
  have hm0 : CMap W0 w.heap.size 0 (.map []) (fun _ => chg0) (fun _ => False) := by rw [hW0]; exact cmap_new w
  have hat := reat_any (h.below hb0) hl n t2 hw2
  have HW0 := hidE hW0
  have HH := hidE h
  have HWE := hidE hw1
  clear hW0 h
  go_enter Tryz.func16, Tryz.ntmps16
  go_wp2_with fail
  rw [← HW0.out]
  refine hat.mono ?_
  rintro r w1 ⟨v1, ks, rfl, hks, hown1, hb1⟩
  obtain ⟨ad1, cp1, hv1⟩ := own_lenN hown1
  subst hv1
  clear hat
  obtain ⟨M, hM⟩ : ∃ M, M = goS stk00 (ordd (evUp b n t2)) := ⟨_, rfl⟩
  have HMU : Hid (stUp b n t2 = M) := hM.symm
  have HOKM : Hid (∀ x, StkOK 1000 (M x)) := fun x => by rw [← HMU.out]; exact stUp_ok b n t2 hl x
  have hkl : ks.length ≤ 10000 := by
    have h1 := keys_len hks
    have h2 := evUp_len b n t2
    omega
  have hisz : ∀ x ∈ ks, x.size ≤ maxLen := fun x hx => by
    obtain ⟨e, he, rfl⟩ := some_item ((hks.mem x).1 hx)
    have h1 := (ordd_rt _ e he).1.1.2
    rw [eba_len] at h1
    unfold maxLen; omega
  rw [← hM] at hown1 hks
  have hs0 : W0.heap.size = w.heap.size + 1 := by rw [HW0.out]; simp
  have hs1 := hb1.size
  have hmb : w.heap.size < w1.heap.size := by omega
  have HISZ := hidE hisz
  have HKS := hidE hks
  have HO1 := hidE hown1
  have HM1 : Hid (CMap w1 w.heap.size 0 (.map []) (chgAt (ks.take 0) M) (fun z => z ∈ ks.take 0)) := by
    have h1 := hm0.below hb1
    exact ⟨h1.map, fun x => by rw [h1.at_, List.take_zero, chgAt_nil], fun x => by simp [h1.has_]⟩
  have HS0 := hidE hs0
  have HB1 : Hid (Below w.heap.size w w1) := hb0.trans (hb1.mono hb0.size)
  clear hisz hks hown1 hm0 hb1 hb0 hs0 hM hs1
  go_wp2
  go_loopw [25] (fun i wr => ∃ (k m : Nat) (D : DataW Value), k ≤ ks.length ∧ i = .int .i64 k ∧ m ≤ k ∧ Hid (CMap wr w.heap.size m D (chgAt (ks.take k) M) (fun z => z ∈ ks.take k)) ∧ Hid (Below w.heap.size w wr) ∧ Hid (SameBut w.heap.size w1 wr)) (fun i _ => ks.length - (intOf i).toNat)
  case atStart => exact ⟨0, 0, _, Nat.zero_le _, rfl, Nat.le_refl _, HM1, HB1, SameBut.refl _ _⟩
  case round =>
    obtain ⟨k, m, D, hk, rfl, hm, HM, HB, HSB⟩ := hrel
    have hsb := HSB.out.size
    by_cases hlt : k < ks.length
    · rcases own_form HO1.out with ⟨_, e2, _⟩ | ⟨g, cp, e1, hgB, hgl, _⟩
      · rw [e2] at hlt; exact absurd hlt (Nat.not_lt_zero _)
      · simp only [Value.slice.injEq] at e1
        obtain ⟨rfl, _, rfl⟩ := e1
        have hgm : g ≠ w.heap.size := by have := HS0.out; omega
        obtain ⟨x, hx⟩ : ∃ x, x = ks[k] := ⟨_, rfl⟩
        have q0 := (HSB.out.cell (p := ⟨g, k * 3 + 0, none⟩) hgl hgm).trans (own_cell (m := 3) (fun _ => rfl) HO1.out k 0 hlt (by omega)).1
        have q1 := (HSB.out.cell (p := ⟨g, k * 3 + 1, none⟩) hgl hgm).trans (own_cell (m := 3) (fun _ => rfl) HO1.out k 1 hlt (by omega)).1
        have q2 := (HSB.out.cell (p := ⟨g, k * 3 + 2, none⟩) hgl hgm).trans (own_cell (m := 3) (fun _ => rfl) HO1.out k 2 hlt (by omega)).1
        rw [← hx] at q0 q1 q2
        simp only [holdC, List.getElem?_cons_zero, List.getElem?_cons_succ, Nat.add_zero] at q0 q1 q2
        have hxs : x.size ≤ maxLen := HISZ.out x (by rw [hx]; exact List.getElem_mem hlt)
        have HTK : Hid (ks.take (k + 1) = ks.take k ++ [x]) := by show _ = _; rw [hx]; exact List.take_succ_eq_append_getElem hlt
        obtain ⟨W1, hW1⟩ : ∃ W, W = wr.alloc (.cells #[.string x, .int .i64 (sumQ (M x).ys), .int .i64 (sumV (M x).ys)] 44) := ⟨_, rfl⟩
        have hb2 : Below wr.heap.size wr W1 := by rw [hW1]; exact (Below.refl _ _).alloc (Nat.le_refl _) _
        have HM1' := hidE (HM.out.below hb2)
        have HB2 := hidE hb2
        have HW1 := hidE hW1
        have hsw := HB.out.size
        have hmw : w.heap.size < wr.heap.size := HM.out.lt
        clear hW1 hb2 hx
        go_wp2_with (first
          | (at_mapUpdate; refine wpList_mapUpdate_own _ rfl _ _ _ 84 rfl 9 85 law_strT Tryz.underlying84 heldE w.heap.size m D rfl (by rw [← HW1.out]; exact HM1'.out.map) (by unfold maxLen; omega) _ _ (keyB x) rfl rfl (key_str x hxs) (.held (chgV ⟨x, sumQ (M x).ys, sumV (M x).ys⟩)) [] rfl ?_)
          | go_in)
        intro w2 hm2 hg2
        rw [← HW1.out] at hg2
        have HM3 : Hid (CMap w2 w.heap.size (m + 1) _ (chgAt (ks.take (k + 1)) M) (fun z => z ∈ ks.take (k + 1))) := (HM1'.out.put hm2).ext (fun z => by rw [HTK.out, chgAt_snoc]) (fun z => by rw [HTK.out]; simp [or_comm])
        have HB3 : Hid (Below w.heap.size w w2) := (HB.out.trans (HB2.out.mono hsw)).grown hg2 (by have := HB2.out.size; omega) (fun j e => by cases e; exact Nat.le_refl _)
        have HSB3 : Hid (SameBut w.heap.size w1 w2) := (HSB.out.below HB2.out).grown hg2
        clear hm2 hg2 q0 q1 q2
        go_wp2
        go_roundw
        case rel => exact ⟨k + 1, m + 1, _, by omega, by go_num, by omega, HM3, HB3, HSB3⟩
        case measure => simp [intOf]; omega
    · have hk2 : k = ks.length := by omega
      subst hk2
      rw [List.take_length] at HM
      have hat := reat_any (HH.out.below HB.out) hl n t1 HWE.out
      go_wp2_with fail
      refine hat.mono ?_
      rintro r w3 ⟨v3, js, rfl, hjs, hown3, hb3⟩
      obtain ⟨ad3, cp3, hv3⟩ := own_lenN hown3
      subst hv3
      clear hat
      have hB3 : Below w.heap.size w w3 := HB.out.trans (hb3.mono HB.out.size)
      have HM3 := hidE (HM.out.below hb3)
      have HB3 := hidE hB3
      have hs3 := hb3.size
      have HO3 := hidE hown3
      have HJS := hidE hjs
      have hmw : w.heap.size < wr.heap.size := HM.out.lt
      clear hB3 hb3 hown3 hjs
      obtain ⟨N, hN⟩ : ∃ N, N = goS stk00 (ordd (evUp b n t1)) := ⟨_, rfl⟩
      have HNU : Hid (stUp b n t1 = N) := hN.symm
      have HOKN : Hid (∀ x, StkOK 1000 (N x)) := fun x => by rw [← HNU.out]; exact stUp_ok b n t1 hl x
      have hjl : js.length ≤ 10000 := by
        have h1 := keys_len HJS.out
        have h2 := evUp_len b n t1
        omega
      have hjsz : ∀ x ∈ js, x.size ≤ maxLen := fun x hx => by
        obtain ⟨e, he, rfl⟩ := some_item ((HJS.out.mem x).1 hx)
        have h1 := (ordd_rt _ e he).1.1.2
        rw [eba_len] at h1
        unfold maxLen; omega
      rw [← hN] at HO3 HJS
      have HJSZ := hidE hjsz
      have HNN := hidE hN
      obtain ⟨F, hF⟩ : ∃ F, F = chgAt ks M := ⟨_, rfl⟩
      rw [← hF] at HM3
      have HFF := hidE hF
      have HM4 : Hid (CMap w3 w.heap.size m D (chgSub (js.take 0) N F) (fun z => z ∈ js.take 0 ∨ z ∈ ks)) := HM3.out.ext (fun z => by rw [List.take_zero, chgSub_nil]) (fun z => by simp)
      clear hN hjsz hF HM3
      go_wp2
      go_loopw [45] (fun i wq => ∃ (k m : Nat) (D : DataW Value), k ≤ js.length ∧ i = .int .i64 k ∧ m ≤ ks.length + k ∧ Hid (CMap wq w.heap.size m D (chgSub (js.take k) N F) (fun z => z ∈ js.take k ∨ z ∈ ks)) ∧ Hid (Below w.heap.size w wq) ∧ Hid (SameBut w.heap.size w3 wq)) (fun i _ => js.length - (intOf i).toNat)
      case atStart => exact ⟨0, m, _, Nat.zero_le _, rfl, hm, HM4, HB3, SameBut.refl _ _⟩
      case round =>
        obtain ⟨k, m, D, hk, rfl, hm, HM, HB, HSB⟩ := hrel
        have hsb := HSB.out.size
        by_cases hlt : k < js.length
        · rcases own_form HO3.out with ⟨_, e2, _⟩ | ⟨g, cp, e1, hgB, hgl, _⟩
          · rw [e2] at hlt; exact absurd hlt (Nat.not_lt_zero _)
          · simp only [Value.slice.injEq] at e1
            obtain ⟨rfl, _, rfl⟩ := e1
            have hgm : g ≠ w.heap.size := by omega
            obtain ⟨x, hx⟩ : ∃ x, x = js[k] := ⟨_, rfl⟩
            have q0 := (HSB.out.cell (p := ⟨g, k * 3 + 0, none⟩) hgl hgm).trans (own_cell (m := 3) (fun _ => rfl) HO3.out k 0 hlt (by omega)).1
            have q1 := (HSB.out.cell (p := ⟨g, k * 3 + 1, none⟩) hgl hgm).trans (own_cell (m := 3) (fun _ => rfl) HO3.out k 1 hlt (by omega)).1
            have q2 := (HSB.out.cell (p := ⟨g, k * 3 + 2, none⟩) hgl hgm).trans (own_cell (m := 3) (fun _ => rfl) HO3.out k 2 hlt (by omega)).1
            rw [← hx] at q0 q1 q2
            simp only [holdC, List.getElem?_cons_zero, List.getElem?_cons_succ, Nat.add_zero] at q0 q1 q2
            have hxs : x.size ≤ maxLen := HJSZ.out x (by rw [hx]; exact List.getElem_mem hlt)
            have HTK : Hid (js.take (k + 1) = js.take k ++ [x]) := by show _ = _; rw [hx]; exact List.take_succ_eq_append_getElem hlt
            have HNI : Hid (x ∉ js.take k) := by
              have h1 := HJS.out.nodup.sublist (List.take_sublist (k + 1) js)
              rw [HTK.out] at h1
              exact fun c => (List.nodup_append.1 h1).2.2 x c x (by simp) rfl
            obtain ⟨cc, hcc⟩ : ∃ c, c = chgSub (js.take k) N F x := ⟨_, rfl⟩
            have HCC := hidE hcc
            obtain ⟨W1, hW1⟩ : ∃ W, W = wr.alloc (.cells #[.string x, .int .i64 (sumQ (N x).ys), .int .i64 (sumV (N x).ys)] 44) := ⟨_, rfl⟩
            have hb4 : Below wr.heap.size wr W1 := by rw [hW1]; exact (Below.refl _ _).alloc (Nat.le_refl _) _
            have lk := (HM.out.below hb4).look x hxs
            rw [← hcc] at lk
            obtain ⟨ci, cq, cv⟩ := cc
            obtain ⟨W2, hW2⟩ : ∃ W, W = W1.alloc (.cells #[.string ci, .int .i64 cq, .int .i64 cv] 85) := ⟨_, rfl⟩
            have hb5 : Below wr.heap.size wr W2 := by rw [hW2]; exact hb4.alloc hb4.size _
            have HM5 := hidE (HM.out.below hb5)
            have HB5 := hidE hb5
            have HW2 := hidE hW2
            have HW1 := hidE hW1
            have hsw := HB.out.size
            have hmw2 : w.heap.size < wr.heap.size := HM.out.lt
            unfold chgV at lk
            simp only at lk
            rw [hW1] at lk
            clear hW1 hW2 hb4 hb5 hx hcc
            go_wp2_with (first
              | (at_mapUpdate; refine wpList_mapUpdate_own _ rfl _ _ _ 84 rfl 9 85 law_strT Tryz.underlying84 heldE w.heap.size m D rfl (by rw [← HW1.out, ← HW2.out]; exact HM5.out.map) (by unfold maxLen; omega) _ _ (keyB x) rfl rfl (key_str x hxs) (.held (chgV ⟨x, wrap64 (cq - sumQ (N x).ys), wrap64 (cv - sumV (N x).ys)⟩)) [] rfl ?_)
              | go_in)
            intro w5 hm5 hg5
            rw [← HW1.out, ← HW2.out] at hg5
            have HM6 : Hid (CMap w5 w.heap.size (m + 1) _ (chgSub (js.take (k + 1)) N F) (fun z => z ∈ js.take (k + 1) ∨ z ∈ ks)) := (HM5.out.put hm5).ext (fun z => by rw [HTK.out, chgSub_snoc N F HNI.out, ← HCC.out]) (fun z => by rw [HTK.out]; rw [List.mem_append, List.mem_singleton]; exact ⟨fun h => h.elim (fun a => Or.inl (Or.inr a)) (fun a => a.elim (fun a => Or.inl (Or.inl a)) Or.inr), fun h => h.elim (fun a => a.elim (fun a => Or.inr (Or.inl a)) Or.inl) (fun a => Or.inr (Or.inr a))⟩)
            have HB6 : Hid (Below w.heap.size w w5) := (HB.out.trans (HB5.out.mono hsw)).grown hg5 (by have := HB5.out.size; omega) (fun j e => by cases e; exact Nat.le_refl _)
            have HSB6 : Hid (SameBut w.heap.size w3 w5) := (HSB.out.below HB5.out).grown hg5
            clear hm5 hg5 q0 q1 q2 lk
            go_wp2
            go_roundw
            case rel => exact ⟨k + 1, m + 1, _, by omega, by go_num, by omega, HM6, HB6, HSB6⟩
            case measure => simp [intOf]; omega
        · have hk2 : k = js.length := by omega
          subst hk2
          rw [List.take_length] at HM
          have hml : Maps.size D ≤ js.length + ks.length := by
            have h1 := cmap_keys HM.out (L := js ++ ks) (fun x hx => List.mem_append.2 hx)
            rw [List.length_append] at h1
            exact h1
          have hK := callsIn_wide.1 (Tryz.maps_KeysC (some w.heap.size) wr)
          have hSo := callsIn_wide.1 (Tryz.sorted_keysC w.heap.size m D heldE wr HM.out.map (by unfold maxLen; omega) (by omega))
          have HK := hidE hK
          have HSo := hidE hSo
          have hsw := HB.out.size
          clear hK hSo hml
          go_wp2_with fail
          refine HK.out.mono ?_
          rintro e w4 ⟨rfl, rfl⟩
          go_wp2_with fail
          refine HSo.out.mono ?_
          rintro e w5 ⟨kv, ss, rfl, hS, hrow, _, hb5⟩
          obtain ⟨ms, hms, hmm2⟩ := keysD HM.out.map HM.out.has_ hS
          rw [hmm2] at hrow
          have hsl : ss.length = ms.length := by
            have h1 := congrArg List.length hmm2
            rw [List.length_mergeSort, List.length_map] at h1
            exact h1
          rw [hsl] at hrow
          have hrow2 : w5.ownsRow (wr.heap.size + 1) 9 1 kv ms.length (ms.flatMap fun x => [Value.string x]) := by
            rw [enc_flatK ms] at hrow
            simpa using hrow
          have hmn : ms.length ≤ 20000 := by
            have h1 := nodup_le ms (js ++ ks) hms.nodup fun x hx => List.mem_append.2 ((hms.mem x).1 hx)
            rw [List.length_append] at h1
            omega
          have hisz2 : ∀ x ∈ ms, x.size ≤ maxLen := fun x hx => by
            rcases (hms.mem x).1 hx with h1 | h1
            · exact HJSZ.out x h1
            · exact HISZ.out x h1
          have HCI : Hid (∀ x ∈ ms, chgSub js N F x = ⟨x, dfQ M N x, dfV M N x⟩) := fun x hx => by
            rw [HFF.out]
            exact chg_is HOKM.out HOKN.out HKS.out HJS.out ((hms.mem x).1 hx)
          have HKK : Hid (Keys (fun z => dfQ M N z ≠ 0 ∨ dfV M N z ≠ 0) (ms.filter (dfN M N))) := df_keys HKS.out HJS.out hms
          have hb45 : Below wr.heap.size wr w5 := ((Below.refl _ _).alloc (Nat.le_refl _) (.cells #[.map (some w.heap.size)] 84)).trans (hb5.mono (by simp))
          have HM5 := hidE (HM.out.below hb45)
          have HB5 : Hid (Below w.heap.size w w5) := HB.out.trans (hb45.mono hsw)
          have HRW := hidE hrow2
          have HIS2 := hidE hisz2
          have hs5 := HB5.out.size
          have hform := own_form hrow2
          clear hS hrow hb5 hmm2 hsl hms HK HSo hb45 hisz2 HM HB HSB HB1 HM1 HM4 HB3 HO1 HO3
          obtain ⟨adk, nk, cpk, hkv⟩ : ∃ ad n cap, kv = .slice ad n cap ∧ n = ms.length := by
            rcases hform with ⟨e, e2, _⟩ | ⟨g, c, e, _⟩
            · exact ⟨none, 0, 0, e, e2.symm⟩
            · exact ⟨_, _, _, e, rfl⟩
          obtain ⟨rfl, hnk⟩ := hkv
          subst hnk
          clear hform hrow2
          go_wp2
          go_loopw [15, 74] (fun u i wq => ∃ k : Nat, k ≤ ms.length ∧ i = .int .i64 k ∧ Hid (wq.ownsRow w5.heap.size 85 3 u ((ms.take k).filter (dfN M N)).length (((ms.take k).filter (dfN M N)).flatMap (dfC M N))) ∧ Hid (Below w5.heap.size w5 wq)) (fun _ i _ => ms.length - (intOf i).toNat)
          case atStart => exact ⟨0, Nat.zero_le _, rfl, World.ownsRow_nil _ _ _ _, Below.refl _ _⟩
          case round =>
            obtain ⟨k, hk, rfl, HO, HBW⟩ := hrel
            have hsww := HBW.out.size
            by_cases hlt : k < ms.length
            · obtain ⟨ad3, n3, cp3, hv3⟩ := own_lenK HO.out
              subst hv3
              rcases own_form HRW.out with ⟨_, e2, _⟩ | ⟨g, cp, e1, _, hgl, _⟩
              · rw [e2] at hlt; exact absurd hlt (Nat.not_lt_zero _)
              · simp only [Value.slice.injEq] at e1
                obtain ⟨rfl, _, rfl⟩ := e1
                have q0 := (own_cell (m := 1) (fun _ => rfl) HRW.out k 0 hlt (by omega)).1
                obtain ⟨x, hx⟩ : ∃ x, x = ms[k] := ⟨_, rfl⟩
                rw [← hx] at q0
                have hxm : x ∈ ms := by rw [hx]; exact List.getElem_mem hlt
                have hxs : x.size ≤ maxLen := HIS2.out x hxm
                simp only [List.getElem?_cons_zero, Nat.mul_one, Nat.add_zero] at q0
                have q1 : wr.cell? ⟨g, k, none⟩ = some (.string x) := (HBW.out.cell (p := ⟨g, k, none⟩) hgl).trans q0
                have lk := (HM5.out.below HBW.out).look x hxs
                rw [HCI.out x hxm] at lk
                unfold chgV at lk
                simp only at lk
                have HTK : Hid ((ms.take (k + 1)).filter (dfN M N) = (ms.take k).filter (dfN M N) ++ (if dfN M N x = true then [x] else [])) := by
                  show _ = _
                  rw [List.take_succ_eq_append_getElem hlt, ← hx, List.filter_append]
                  congr 1
                  by_cases c : dfN M N x = true
                  · rw [if_pos c, List.filter_cons_of_pos c]; rfl
                  · rw [if_neg c, List.filter_cons_of_neg c]; rfl
                have htl : ((ms.take k).filter (dfN M N)).length ≤ k := by
                  have h1 := List.length_filter_le (dfN M N) (ms.take k)
                  rw [List.length_take] at h1
                  omega
                have HNI := dfN_iff M N x
                have HDC : Hid (dfC M N x = [.string x, .int .i64 (dfQ M N x), .int .i64 (dfV M N x)]) := rfl
                obtain ⟨dq, hdq⟩ : ∃ d, d = dfQ M N x := ⟨_, rfl⟩
                obtain ⟨dv, hdv⟩ : ∃ d, d = dfV M N x := ⟨_, rfl⟩
                rw [← hdq, ← hdv] at lk HNI HDC
                obtain ⟨fl, hfl⟩ : ∃ f, f = (ms.take k).filter (dfN M N) := ⟨_, rfl⟩
                rw [← hfl] at HTK htl HO
                clear hx q0 hdq hdv hfl
                obtain ⟨W1, hW1⟩ : ∃ W, W = wr.alloc (.cells #[.string x, .int .i64 dq, .int .i64 dv] 85) := ⟨_, rfl⟩
                have hB1 : Below w5.heap.size w5 W1 := by rw [hW1]; exact HBW.out.alloc hsww _
                have hown1 : W1.ownsRow w5.heap.size 85 3 (.slice ad3 n3 cp3) fl.length (fl.flatMap (dfC M N)) := by rw [hW1]; exact HO.out.alloc _
                have hs1 := hB1.size
                have HW1 := hidE hW1
                have HB1' := hidE hB1
                have HO1' := hidE hown1
                clear hW1 hB1 hown1
                by_cases hnz : dq ≠ 0 ∨ dv ≠ 0
                · rw [if_pos (HNI.2 hnz)] at HTK
                  have hcc : dq ≠ 0 ∨ (dq = 0 ∧ dv ≠ 0) := by
                    by_cases c : dq = 0
                    · exact Or.inr ⟨c, hnz.resolve_left (fun d => d c)⟩
                    · exact Or.inl c
                  clear HNI hnz
                  rcases hcc with hc | ⟨rfl, hc⟩
                  all_goals
                    go_wp2_with (first
                      | (at_builtin; refine wpList_append_new _ rfl _ _ 57 rfl w5.heap.size 85 i0 chgZ 3 32 Tryz.underlying57 hi hz0 hz1 hz2 rfl (by decide) (.slice ad3 n3 cp3) _ _ rfl ((HO.out.alloc _).alloc _) ⟨wr.heap.size + 1, 0, none⟩ 1 1 (dfC M N x) rfl rfl ?d1 ?d2 ?d3 ?d4 ?d5 (by omega) ?_)
                      | go_in)
                    case d1 => rw [HDC.out, ← HW1.out]; exact cells_of_list (w := W1) (cs := [.string x, .int .i64 _, .int .i64 dv]) (T := 85) (by rw [HW1.out]; simp)
                    case d2 => exact dfC_one _ _ _
                    case d3 => unfold maxLen; omega
                    case d4 => omega
                    case d5 => rw [← HW1.out]; first | omega | (simp; omega)
                    intro v' w6 hown6 hg6 _
                    rw [← HW1.out] at hg6
                    obtain ⟨ad5, nn5, cp5, hv5⟩ := own_lenK hown6
                    subst hv5
                    have HB6 : Hid (Below w5.heap.size w5 w6) := by
                      refine (HB1'.out.alloc hs1 _).grown hg6 ?_ (fun j hj => (HO1'.out.lt j hj).1)
                      have := hs1
                      simp
                      omega
                    have HO6 : Hid (w6.ownsRow w5.heap.size 85 3 (.slice ad5 nn5 cp5) ((ms.take (k + 1)).filter (dfN M N)).length (((ms.take (k + 1)).filter (dfN M N)).flatMap (dfC M N))) := by
                      show w6.ownsRow _ _ _ _ _ _
                      rw [HTK.out, List.length_append, List.flatMap_append]
                      simpa using hown6
                    clear hown6 hg6
                    go_wp2
                    go_roundw
                    case rel => exact ⟨k + 1, by omega, by go_num, HO6, HB6⟩
                    case measure => simp [intOf]; omega
                · have hq0 : dq = 0 := Classical.byContradiction fun c => hnz (Or.inl c)
                  have hv0 : dv = 0 := Classical.byContradiction fun c => hnz (Or.inr c)
                  rw [if_neg (fun c => hnz (HNI.1 c)), List.append_nil] at HTK
                  have HO6 : Hid (W1.ownsRow w5.heap.size 85 3 (.slice ad3 n3 cp3) ((ms.take (k + 1)).filter (dfN M N)).length (((ms.take (k + 1)).filter (dfN M N)).flatMap (dfC M N))) := by
                    show W1.ownsRow _ _ _ _ _ _
                    rw [HTK.out]; exact HO1'.out
                  clear HNI hnz HDC
                  subst hq0 hv0
                  go_wp2
                  rw [← HW1.out]
                  go_roundw
                  case rel => exact ⟨k + 1, by omega, by go_num, HO6, HB1'⟩
                  case measure => simp [intOf]; omega
            · have hk2 : k = ms.length := by omega
              subst hk2
              obtain ⟨ad3, n3, cp3, hv3⟩ := own_lenK HO.out
              subst hv3
              have HO5 : Hid (wr.ownsRow w.heap.size 85 3 (.slice ad3 n3 cp3) (ms.filter (dfN M N)).length ((ms.filter (dfN M N)).flatMap (dfC M N))) := by
                have h1 := HO.out
                rw [List.take_length] at h1
                exact own_below h1 (Below.refl _ _) hs5
              have HB6 : Hid (Below w.heap.size w wr) := HB5.out.trans (HBW.out.mono hs5)
              go_wp2
              go_ret
              refine ⟨_, ms.filter (dfN M N), rfl, ?_, ?_, HB6.out⟩
              · rw [HMU.out, HNU.out]; exact HKK.out
              · rw [HMU.out, HNU.out]; exact HO5.out
end Go.Proofs.YtcfgacdcgljbaaaGreat
