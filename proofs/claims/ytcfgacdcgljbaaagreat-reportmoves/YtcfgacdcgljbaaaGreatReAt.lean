/- The walk of report.At. -/
import Derived.Test.YtcfgacdcgljbaaaGreatReKnown
import Derived.Test.YtcfgacdcgljbaaaGreatCoSum
import Derived.Test.YtcfgacdcgljbaaaGreatKeysM
import Derived.Test.YtcfgacdcgljbaaaGreatIter
namespace Go.Proofs.YtcfgacdcgljbaaaGreat
open Go.RowKit Go.Maps Go.Shelf
theorem nodup_le {α : Type} : ∀ (l m : List α), l.Nodup → (∀ x ∈ l, x ∈ m) → l.length ≤ m.length
  | [], _, _, _ => Nat.zero_le _
  | a :: l, m, hn, hs => by
    obtain ⟨s, t, rfl⟩ := List.append_of_mem (hs a (List.mem_cons_self ..))
    have h1 := nodup_le l (s ++ t) (List.nodup_cons.1 hn).2 fun x hx => by
      have h2 := hs x (List.mem_cons_of_mem _ hx)
      have h3 : x ≠ a := fun e => (List.nodup_cons.1 hn).1 (e ▸ hx)
      simp only [List.mem_append, List.mem_cons] at h2 ⊢
      rcases h2 with h2 | h2 | h2
      · exact Or.inl h2
      · exact absurd h2 h3
      · exact Or.inr h2
    simp only [List.length_append, List.length_cons] at h1 ⊢
    omega
theorem goS_not (x : ByteArray) : ∀ (es : List Ev) (M : Stks), (∀ e ∈ es, e.item ≠ x) → goS M es x = M x
  | [], _, _ => rfl
  | e :: es, M, h => by
    have h1 := goS_not x es (upd M e.item (doE (M e.item) e).1) (fun y hy => h y (List.mem_cons_of_mem _ hy))
    show goS (upd M e.item (doE (M e.item) e).1) es x = M x
    rw [h1, upd_other]
    exact fun c => h e (List.mem_cons_self ..) c.symm
theorem some_item {l : List Ev} {x : ByteArray} (h : (goS stk00 (ordd l) x).ys ≠ []) : ∃ e ∈ ordd l, e.item = x := by
  refine Classical.byContradiction fun c => h ?_
  rw [goS_not x _ _ fun e he e2 => c ⟨e, he, e2⟩]
  rfl
theorem res_has {B : Nat} {W : World} {mb n : Nat} {D : DataW Value} {V : ByteArray → Value} {M : Stks} {u : Value} {ls : List Lin} (h : RunRes B W mb n D V M u ls) (x : ByteArray) : has D (keyB x) = true ↔ (M x).ys ≠ [] := by
  by_cases e : (M x).ys = []
  · rw [h.no x e]; simp [e]
  · rw [has_true_of_atKey (h.yes x e)]; simp [e]
theorem keys_len {l : List Ev} {ks : List ByteArray} (h : Keys (fun x => (goS stk00 (ordd l) x).ys ≠ []) ks) : ks.length ≤ l.length := by
  have h1 := nodup_le ks ((ordd l).map (·.item)) h.nodup fun x hx => by
    obtain ⟨e, he, rfl⟩ := some_item ((h.mem x).1 hx)
    exact List.mem_map_of_mem he
  rw [List.length_map] at h1
  exact Nat.le_trans h1 (ordd_len l)
theorem res_few {B : Nat} {W : World} {mb n : Nat} {D : DataW Value} {V : ByteArray → Value} {l : List Ev} {u : Value} {ls : List Lin} (h : RunRes B W mb n D V (goS stk00 (ordd l)) u ls) : Maps.size D ≤ l.length := by
  obtain ⟨ks, hk, hm⟩ := keysD h.map (res_has h) (List.Perm.refl (strKeys D))
  have h1 := congrArg List.length hm
  rw [List.length_mergeSort, List.length_map] at h1
  have h2 : (strKeys D).length = Maps.size D := by
    obtain ⟨es, rfl⟩ : IsMap D := (h.map.canon law_strT).imp fun es ⟨e, _⟩ => e
    simp [strKeys, Maps.size]
  have := keys_len hk
  omega
def holdZ : Value := .agg #[.string ⟨#[]⟩, .int .i64 0, .int .i64 0]
theorem hold_info : (Tryz.prog.info? 44).map (fun i => (i.zero, i.size, i.bytes)) = some (some holdZ, 3, 32) := by kernel_rfl
/-- A holding. -/
def holdC (M : Stks) (k : ByteArray) : List Value := [.string k, .int .i64 (sumQ (M k).ys), .int .i64 (sumV (M k).ys)]
theorem holdC_one (M : Stks) (p : ByteArray) : ∀ u ∈ holdC M p, u.oneCell' = true := by
  intro u hu
  simp only [holdC, List.mem_cons, List.not_mem_nil, or_false] at hu
  rcases hu with rfl | rfl | rfl <;> rfl
/-- Events as they were known behind a turn, of days up to one. -/
noncomputable def evUp (b : Bk) (n t : Int) : List Ev := (srt (asOf b (tOf b t))).filter fun e => !decide (n < e.day)
set_option maxRecDepth 20000 in
set_option maxHeartbeats 4000000 in
theorem reat_any {B pb : Nat} {sv : Value} {b : Bk} {w : World} (h : BookAt w B pb sv b) (hl : b.vs.length ≤ 1000) (n t : Int) (hw : ∀ e ∈ evUp b n t, EvW e) :
    Calls Tryz.prog 9 #[.pointer (some ⟨pb, 0, none⟩), .int .i64 n, .int .i64 t] w fun r w' => ∃ (u : Value) (ks : List ByteArray), r = .returned u ∧ Keys (fun x => (goS stk00 (ordd (evUp b n t)) x).ys ≠ []) ks ∧ w'.ownsRow w.heap.size 44 3 u ks.length (ks.flatMap (holdC (goS stk00 (ordd (evUp b n t))))) ∧ Below w.heap.size w w' := by
  obtain ⟨i0, hi, hz0, hz1, hz2⟩ := info_parts hold_info
  obtain ⟨W0, hW0⟩ : ∃ W, W = w.alloc (.cells #[.int .i64 n] 3) := ⟨_, rfl⟩
  have hb0 : Below w.heap.size w W0 := by rw [hW0]; exact (Below.refl _ _).alloc (Nat.le_refl _) _
  have hc0 : W0.cell? ⟨w.heap.size, 0, none⟩ = some (.int .i64 n) := by rw [hW0]; simp
  have hkn := kn_any (h.below hb0) hl t 24 #[.pointer (some ⟨w.heap.size, 0, none⟩)] (fun e => decide (n < e.day)) (enters_of Tryz.func24 (by kernel_rfl) rfl) (fun e W hb => atBut_any e n w.heap.size W (below_cell hb hc0))
  have hlen : (evUp b n t).length ≤ 10000 := by
    have h1 := List.length_filter_le (fun e : Ev => !decide (n < e.day)) (srt (asOf b (tOf b t)))
    rw [srt_len] at h1
    unfold asOf at h1
    rw [List.length_map] at h1
    have h2 := List.length_filter_le (isAt (tOf b t)) b.vs
    unfold evUp asOf
    omega
  have hkn2 : Calls Tryz.prog 23 #[.pointer (some ⟨pb, 0, none⟩), .int .i64 t, .func (.func 24) #[] #[.pointer (some ⟨w.heap.size, 0, none⟩)]] W0 fun r w' => ∃ v : Value, r = .returned v ∧ w'.ownsRow W0.heap.size 36 7 v (evUp b n t).length ((evUp b n t).flatMap evC) ∧ Below W0.heap.size W0 w' := hkn
  obtain ⟨L, hL⟩ : ∃ L, L = evUp b n t := ⟨_, rfl⟩
  rw [← hL] at hkn2 hlen hw ⊢
  have HB0 := hidE hb0
  have HW0 := hidE hW0
  clear hkn h hL hb0 hW0 hc0
  go_enter Tryz.func9, Tryz.ntmps9
  go_wp2_with fail
  rw [← HW0.out]
  refine hkn2.mono ?_
  rintro r w1 ⟨v1, rfl, hown1, hb1⟩
  have hrun := run_any L v1 w1 (EvsAt.of_own hown1) hw hlen
  obtain ⟨ad1, cp1, hv1⟩ := own_lenN hown1
  subst hv1
  have HB1 : Hid (Below w.heap.size w w1) := HB0.out.trans (hb1.mono HB0.out.size)
  clear hkn2 hown1 hb1
  go_wp2_with fail
  refine hrun.mono ?_
  rintro r w2 ⟨rv, rfl, hres, hb2⟩
  clear hrun
  obtain ⟨u, mb, nn, D, V, rfl, hmb, hVb, hR⟩ := hres
  obtain ⟨M, hM⟩ : ∃ M, M = goS stk00 (ordd L) := ⟨_, rfl⟩
  have hsz := res_few hR
  have hisz : ∀ x, (M x).ys ≠ [] → x.size ≤ maxLen := fun x hx => by
    rw [hM] at hx
    obtain ⟨e, he, rfl⟩ := some_item hx
    have h1 := (ordd_rt L e he).1.1.2
    rw [eba_len] at h1
    unfold maxLen; omega
  have hok : ∀ x, StkOK 10000 (M x) := fun x => by
    have h1 := (goS_ok (ordd L) 0 stk00 (fun y => stk0_ok 0) (ordd_rt L)).1 x
    rw [hM]
    exact h1.more (by have := ordd_len L; omega)
  have hkl := fun ks => @keys_len L ks
  rw [← hM] at hR hkl
  have HMM : Hid (M = goS stk00 (ordd L)) := hM
  obtain ⟨adu, cu, hvu⟩ := own_lenN hR.own
  subst hvu
  obtain ⟨W3, hW3⟩ : ∃ W, W = w2.alloc (.cells #[.slice adu (goL stk00 (ordd L)).length cu, .map (some mb)] 69) := ⟨_, rfl⟩
  obtain ⟨ls, hls⟩ : ∃ ls, ls = goL stk00 (ordd L) := ⟨_, rfl⟩
  rw [← hls] at hR hW3
  have hb3 : Below w2.heap.size w2 W3 := by rw [hW3]; exact (Below.refl _ _).alloc (Nat.le_refl _) _
  have hR3 := hR.below hb3
  have hr0 : W3.cell? ⟨w2.heap.size, 0, none⟩ = some (.slice adu ls.length cu) := by rw [hW3]; simp
  have hr1 : W3.cell? ⟨w2.heap.size, 1, none⟩ = some (.map (some mb)) := by rw [hW3]; simp
  have hs3 : W3.heap.size = w2.heap.size + 1 := by rw [hW3]; simp
  obtain ⟨rb, hrb⟩ : ∃ r, r = w2.heap.size := ⟨_, rfl⟩
  rw [← hrb] at hr0 hr1 hs3
  have hK := callsIn_wide.1 (Tryz.maps_KeysL (some mb) W3)
  have hSo := callsIn_wide.1 (Tryz.sorted_keysL mb nn D heldE W3 hR3.map (by unfold maxLen; omega) (by omega))
  have hB2 : Below w.heap.size w W3 := (HB1.out.trans (hb2.mono HB1.out.size)).trans (hb3.mono (HB1.out.trans (hb2.mono HB1.out.size)).size)
  have HB2 := hidE hB2
  have HK := hidE hK
  have HSo := hidE hSo
  have HR := hidE hR3
  have HISZ := hidE hisz
  have HOK := hidE hok
  have HKL := hidE hkl
  have HW3 := hidE hW3
  have HRB := hidE hrb
  have HLS := hidE hls
  have HR0 := hidE hr0
  have HR1 := hidE hr1
  have HS3 := hidE hs3
  have hsw := hB2.size
  clear hK hSo hR hR3 hB2 hb2 hb3 hM hisz hok hkl hw HW0 HB0 HB1 hVb hsz hW3 hrb hls hr0 hr1 hs3
  go_wp2_with fail
  rw [← HLS.out, ← HW3.out]
  rw [← HRB.out]
  refine HK.out.mono ?_
  rintro e w3 ⟨rfl, rfl⟩
  go_wp2_with fail
  refine HSo.out.mono ?_
  rintro e w4 ⟨kv, ss, rfl, hS, hrow, _, hb4⟩
  obtain ⟨ks, hks, hms⟩ := keysD HR.out.map (res_has HR.out) hS
  rw [hms] at hrow
  have hsl : ss.length = ks.length := by
    have h1 := congrArg List.length hms
    rw [List.length_mergeSort, List.length_map] at h1
    exact h1
  rw [hsl] at hrow
  have hrow2 : w4.ownsRow (W3.heap.size + 1) 9 1 kv ks.length (ks.flatMap fun x => [Value.string x]) := by
    rw [enc_flatK ks] at hrow
    simpa using hrow
  have hkl : ks.length ≤ 10000 := Nat.le_trans (HKL.out ks hks) hlen
  have hb24 : Below W3.heap.size W3 w4 := ((Below.refl _ _).alloc (Nat.le_refl _) (.cells #[.map (some mb)] 67)).trans (hb4.mono (by simp))
  have HR4 : Hid (RunRes _ w4 mb nn D V M _ _) := HR.out.below hb24
  have HB4 : Hid (Below w.heap.size w w4) := HB2.out.trans (hb24.mono hsw)
  have HKS := hidE hks
  have HBC : Hid (rb + 1 ≤ w4.heap.size) := by show _ ≤ _; have h1 := hb24.size; rw [HS3.out] at h1; exact h1
  have HR40 : Hid (w4.cell? ⟨rb, 0, none⟩ = some (.slice adu ls.length cu)) := (hb24.cell (p := ⟨rb, 0, none⟩) (by rw [HS3.out]; exact Nat.lt_succ_self _)).trans HR0.out
  have HR41 : Hid (w4.cell? ⟨rb, 1, none⟩ = some (.map (some mb))) := (hb24.cell (p := ⟨rb, 1, none⟩) (by rw [HS3.out]; exact Nat.lt_succ_self _)).trans HR1.out
  have HRW := hidE hrow2
  have hs4 := HB4.out.size
  have hform := own_form hrow2
  clear hS hrow hb4 hms hsl hks HK HSo HR HB2 hb24 HKL
  obtain ⟨adk, nk, cpk, hkv⟩ : ∃ ad n cap, kv = .slice ad n cap ∧ n = ks.length := by
    rcases hform with ⟨e, e2, _⟩ | ⟨g, c, e, _⟩
    · exact ⟨none, 0, 0, e, e2.symm⟩
    · exact ⟨_, _, _, e, rfl⟩
  obtain ⟨rfl, hnk⟩ := hkv
  subst hnk
  clear hform hrow2
  have hr4 : rb < w4.heap.size := by have := HR4.out; have h1 := HBC.out; omega
  have HC0 : Hid (w4.cell? ⟨rb, 0, none⟩ = some (.slice adu ls.length cu)) := HR40.out
  have HC1 : Hid (w4.cell? ⟨rb, 1, none⟩ = some (.map (some mb))) := HR41.out
  go_wp2
  go_loopw [8, 23] (fun u i wr => ∃ k : Nat, k ≤ ks.length ∧ i = .int .i64 k ∧ Hid (wr.ownsRow w4.heap.size 44 3 u (ks.take k).length ((ks.take k).flatMap (holdC M))) ∧ Hid (Below w4.heap.size w4 wr)) (fun _ i _ => ks.length - (intOf i).toNat)
  case atStart => exact ⟨0, Nat.zero_le _, rfl, World.ownsRow_nil _ _ _ _, Below.refl _ _⟩
  case round =>
    obtain ⟨k, hk, rfl, HO, HBW⟩ := hrel
    have hsww := HBW.out.size
    by_cases hlt : k < ks.length
    · obtain ⟨ad3, n3, cp3, hv3⟩ := own_lenK HO.out
      subst hv3
      rcases own_form HRW.out with ⟨_, e2, _⟩ | ⟨g, cp, e1, _, hgl, _⟩
      · rw [e2] at hlt; exact absurd hlt (Nat.not_lt_zero _)
      · simp only [Value.slice.injEq] at e1
        obtain ⟨rfl, _, rfl⟩ := e1
        have q0 := (own_cell (m := 1) (fun _ => rfl) HRW.out k 0 hlt (by omega)).1
        obtain ⟨x, hx⟩ : ∃ x, x = ks[k] := ⟨_, rfl⟩
        rw [← hx] at q0
        have hxs : x.size ≤ maxLen := HISZ.out x (by rw [hx]; exact (HKS.out.mem _).1 (List.getElem_mem hlt))
        simp only [List.getElem?_cons_zero, Nat.mul_one, Nat.add_zero] at q0
        have q1 : wr.cell? ⟨g, k, none⟩ = some (.string x) := (HBW.out.cell (p := ⟨g, k, none⟩) hgl).trans q0
        have f0 := (HBW.out.cell (p := ⟨rb, 0, none⟩) hr4).trans HC0.out
        have f1 := (HBW.out.cell (p := ⟨rb, 1, none⟩) hr4).trans HC1.out
        have hsum := Sum_any (B := 0) (rv := .agg #[.slice adu ls.length cu, .map (some mb)]) (W := wr) (M := M) (ls := ls) ⟨_, mb, nn, D, V, rfl, Nat.zero_le _, fun _ _ _ => Nat.zero_le _, (⟨(HR4.out.below HBW.out).map, HR4.out.no, HR4.out.yes, (HR4.out.below HBW.out).lay, own_below (HR4.out.below HBW.out).own (Below.refl _ _) (Nat.zero_le _)⟩ : RunRes 0 wr mb nn D V M _ ls)⟩ x hxs (HOK.out x) (Nat.le_refl _)
        have HTK : Hid (ks.take (k + 1) = ks.take k ++ [x]) := by show _ = _; rw [hx]; exact List.take_succ_eq_append_getElem hlt
        have htl : (ks.take k).length = k := by rw [List.length_take]; omega
        have HTL := hidE htl
        clear hx q0 htl
        go_wp2_with fail
        refine hsum.mono ?_
        rintro r w6 ⟨rfl, hb6⟩
        have hown : w6.ownsRow w4.heap.size 44 3 (.slice ad3 n3 cp3) k ((ks.take k).flatMap (holdC M)) := by
          have h1 := own_below HO.out hb6 (Nat.le_refl _)
          rw [HTL.out] at h1
          exact h1
        have hB6 : Below w4.heap.size w4 w6 := HBW.out.trans (hb6.mono hsww)
        have hs6 := hB6.size
        have HB6 := hidE hB6
        clear hsum f0 f1 q1 hB6 hb6
        go_wp2_with (first
          | (at_builtin; refine wpList_append_new _ rfl _ _ 31 rfl w4.heap.size 44 i0 holdZ 3 32 Tryz.underlying31 hi hz0 hz1 hz2 rfl (by decide) (.slice ad3 n3 cp3) _ _ rfl (hown.alloc _) ⟨w6.heap.size, 0, none⟩ 1 1 (holdC M x) rfl rfl ?d1 ?d2 ?d3 ?d4 ?d5 (by omega) ?_)
          | go_in)
        case d1 => simpa [holdC] using cells_of_list (w := w6) (cs := holdC M x) (T := 44) rfl
        case d2 => exact holdC_one _ _
        case d3 => unfold maxLen; omega
        case d4 => omega
        case d5 => first | omega | (simp; omega)
        intro v' w5 hown5 hg5 _
        obtain ⟨ad5, nn5, cp5, hv5⟩ := own_lenK hown5
        subst hv5
        have HB5 : Hid (Below w4.heap.size w4 w5) := by
          have b1 : Below w4.heap.size w4 (w6.alloc (.cells #[.string x, .int .i64 (sumQ (M x).ys), .int .i64 (sumV (M x).ys)] 44)) := HB6.out.alloc hs6 _
          exact b1.grown hg5 b1.size (fun j hj => (hown.lt j hj).1)
        have HO5 : Hid (w5.ownsRow w4.heap.size 44 3 (.slice ad5 nn5 cp5) (ks.take (k + 1)).length ((ks.take (k + 1)).flatMap (holdC M))) := by
          show w5.ownsRow _ _ _ _ _ _
          rw [HTK.out, List.length_append, List.flatMap_append, HTL.out]
          simpa using hown5
        clear hown5 hg5 hown
        go_wp2
        go_roundw
        case rel => exact ⟨k + 1, by omega, by go_num, HO5, HB5⟩
        case measure => simp [intOf]; omega
    · have hk2 : k = ks.length := by omega
      subst hk2
      obtain ⟨ad3, n3, cp3, hv3⟩ := own_lenK HO.out
      subst hv3
      have HO5 : Hid (wr.ownsRow w.heap.size 44 3 (.slice ad3 n3 cp3) ks.length (ks.flatMap (holdC M))) := by
        have h1 := HO.out
        rw [List.take_length] at h1
        exact own_below h1 (Below.refl _ _) hs4
      have HB5 : Hid (Below w.heap.size w wr) := HB4.out.trans (HBW.out.mono hs4)
      go_wp2
      go_ret
      refine ⟨_, ks, rfl, ?_, ?_, HB5.out⟩
      · rw [← HMM.out]; exact HKS.out
      · rw [← HMM.out]; exact HO5.out
end Go.Proofs.YtcfgacdcgljbaaaGreat
