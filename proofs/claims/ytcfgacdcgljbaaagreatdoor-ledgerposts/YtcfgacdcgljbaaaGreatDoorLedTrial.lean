/- The walk of ledger.Trial. -/
import Derived.Test.YtcfgacdcgljbaaaGreatDoorLedMap
import Derived.Test.YtcfgacdcgljbaaaGreatDoorBnG
import Derived.Test.YtcfgacdcgljbaaaGreatDoorIter
namespace Go.Proofs.YtcfgacdcgljbaaaGreatDoor
open Go.RowKit Go.Maps
def blcZ : Value := .agg #[.string ⟨#[]⟩, .int .i64 0]
theorem Tryz.infoBlc : (Tryz.prog.info? 89).map (fun i => (i.zero, i.size, i.bytes)) = some (some blcZ, 2, 24) := by kernel_rfl
def blcC (f : ByteArray → Int) (k : ByteArray) : List Value := [.string k, .int .i64 (f k)]
theorem blcC_one (f : ByteArray → Int) (p : ByteArray) : ∀ u ∈ blcC f p, u.oneCell' = true := by
  intro u hu
  simp only [blcC, List.mem_cons, List.not_mem_nil, or_false] at hu
  rcases hu with rfl | rfl <;> rfl
theorem bal_snoc (x : ByteArray) {ps : List Pst} {k : Nat} (hk : k < ps.length) : bal x 0 (ps.take (k + 1)) = bal1 x (bal x 0 (ps.take k)) ps[k] := by
  rw [List.take_succ_eq_append_getElem hk]
  unfold bal
  rw [List.foldl_append]
  rfl
theorem accs_snoc {ps : List Pst} {k : Nat} (hk : k < ps.length) (x : ByteArray) : x ∈ accs (ps.take (k + 1)) ↔ (x ∈ accs (ps.take k) ∨ x = ps[k].deb ∨ x = ps[k].cre) := by
  rw [List.take_succ_eq_append_getElem hk]
  unfold accs
  rw [List.flatMap_append, List.mem_append]
  simp
theorem imap_ext {W : World} {mb n : Nat} {D : DataW Value} {f f' : ByteArray → Int} {dom dom' : ByteArray → Prop} (h : IMap W mb n D f dom) (hf : ∀ x, f' x = f x) (hd : ∀ x, dom' x ↔ dom x) : IMap W mb n D f' dom' :=
  ⟨h.map, fun x => by rw [hf, h.at_], fun x => by rw [hd, h.has_]⟩
theorem enc_flat : ∀ ks : List ByteArray, (ks.map fun x : ByteArray => x.data.toList).map Go.Proofs.encStr = ks.flatMap fun x => [Value.string x]
  | [] => rfl
  | k :: ks => by
    have e : Go.Proofs.encStr k.data.toList = .string k := by cases k; rfl
    simp only [List.map_cons, List.flatMap_cons, enc_flat ks, e]
    rfl
set_option maxRecDepth 20000 in
set_option maxHeartbeats 4000000 in
theorem trial_any (ps : List Pst) (v : Value) (w : World) (h : PstsAt w v ps) (hl : ps.length ≤ 10000) (hs : ∀ p ∈ ps, p.deb.size ≤ 1000 ∧ p.cre.size ≤ 1000) :
    Calls Tryz.prog 28 #[v] w fun r w' => ∃ (u : Value) (ks : List ByteArray), r = .returned u ∧ Keys (fun x => x ∈ accs ps) ks ∧ w'.ownsRow w.heap.size 89 2 u ks.length (ks.flatMap (blcC fun k => bal k 0 ps)) ∧ Below w.heap.size w w' := by
  obtain ⟨i0, hi, hz0, hz1, hz2⟩ := info_parts Tryz.infoBlc
  have hmm := @run_makeMap Tryz.prog
  obtain ⟨ad, nv, cv, hv⟩ : ∃ ad n cap, v = .slice ad n cap ∧ n = ps.length := by
    rcases h with ⟨e, e2⟩ | ⟨g, o, c, e, _⟩
    · exact ⟨none, 0, 0, e, by rw [e2]; rfl⟩
    · exact ⟨_, _, _, e, rfl⟩
  obtain ⟨rfl, hnn⟩ := hv
  subst hnn
  have HS : Hid (∀ p ∈ ps, p.deb.size ≤ 1000 ∧ p.cre.size ≤ 1000) := hs
  have HPA : Hid (PstsAt w (.slice ad ps.length cv) ps) := h
  clear h hs
  go_enter Tryz.func28, Tryz.ntmps28
  go_wp2
  obtain ⟨w0, hw0⟩ : ∃ W, W = w.alloc (.map #[] 0) := ⟨_, rfl⟩
  have hm0 : IMap w0 w.heap.size 0 (.map []) (fun x => bal x 0 (ps.take 0)) (fun x => x ∈ accs (ps.take 0)) := by
    rw [hw0]; exact imap_ext (imap_new w) (fun x => rfl) (fun x => by simp [accs])
  have hb0 : Below w.heap.size w w0 := by rw [hw0]; exact (Below.refl _ _).alloc (Nat.le_refl _) _
  rw [← hw0]
  have HM0 := hidE hm0
  have HB0 := hidE hb0
  clear hm0 hb0 hw0
  go_loopw [12] (fun i wr => ∃ (k n : Nat) (D : DataW Value), k ≤ ps.length ∧ i = .int .i64 k ∧ n ≤ 2 * k ∧ Hid (IMap wr w.heap.size n D (fun x => bal x 0 (ps.take k)) (fun x => x ∈ accs (ps.take k))) ∧ Hid (Below w.heap.size w wr)) (fun i _ => ps.length - (intOf i).toNat)
  case atStart => exact ⟨0, 0, _, Nat.zero_le _, rfl, Nat.le_refl _, HM0, HB0⟩
  case round =>
    obtain ⟨k, n, D, hk, rfl, hn, HM, HB⟩ := hrel
    by_cases hlt : k < ps.length
    · rcases HPA.out.below HB.out with ⟨_, e2⟩ | ⟨g, o, cp, e1, hg, hc⟩
      · rw [e2] at hlt; exact absurd hlt (Nat.not_lt_zero _)
      · simp only [Value.slice.injEq] at e1
        obtain ⟨rfl, _, rfl⟩ := e1
        obtain ⟨x, hx⟩ : ∃ x, x = ps[k] := ⟨_, rfl⟩
        have q0 := hc k 0 hlt (by omega)
        have q1 := hc k 1 hlt (by omega)
        have q2 := hc k 2 hlt (by omega)
        have hxs := HS.out ps[k] (List.getElem_mem hlt)
        have HBS : Hid (∀ z, bal z 0 (ps.take (k + 1)) = bal1 z (bal z 0 (ps.take k)) ps[k]) := fun z => bal_snoc z hlt
        have HAS : Hid (∀ z, z ∈ accs (ps.take (k + 1)) ↔ (z ∈ accs (ps.take k) ∨ z = ps[k].deb ∨ z = ps[k].cre)) := fun z => accs_snoc hlt z
        rw [← hx] at q0 q1 q2 hxs HBS HAS
        clear hx hc
        obtain ⟨d, c, m⟩ := x
        simp only [pstC, List.getElem?_cons_zero, List.getElem?_cons_succ, Nat.add_zero] at q0 q1 q2 hxs HBS HAS
        obtain ⟨W1, hW1⟩ : ∃ W, W = wr.alloc (.cells #[.string d, .string c, .int .i64 m] 75) := ⟨_, rfl⟩
        have hb1 : Below wr.heap.size wr W1 := by rw [hW1]; exact (Below.refl _ _).alloc (Nat.le_refl _) _
        have hM1 := HM.out.below hb1
        have l1 := hM1.look d (by unfold maxLen; omega)
        have c0 : W1.cell? ⟨wr.heap.size, 0, none⟩ = some (.string d) ∧ W1.cell? ⟨wr.heap.size, 1, none⟩ = some (.string c) ∧ W1.cell? ⟨wr.heap.size, 2, none⟩ = some (.int .i64 m) := by rw [hW1]; simp
        have HC0 := hidE c0
        have HM1 := hidE hM1
        have HB1 := hidE hb1
        have hs1 : W1.heap.size = wr.heap.size + 1 := by rw [hW1]; simp
        have HW1 : Hid (W1 = wr.alloc (.cells #[.string d, .string c, .int .i64 m] 75)) := hW1
        have hsw := HB.out.size
        have hmw : w.heap.size < wr.heap.size := HM.out.lt
        rw [hW1] at l1
        clear hW1 hb1 hM1 c0
        go_wp2_with (first
          | (at_mapUpdate; refine wpList_mapUpdate_own _ rfl _ _ _ 170 rfl 9 3 law_strT Tryz.underlying170 heldE w.heap.size n D rfl (by rw [← HW1.out]; exact HM1.out.map) (by unfold maxLen; omega) _ _ (keyB d) rfl rfl (key_str d (by unfold maxLen; omega)) (.held (.int .i64 (wrap64 (bal d 0 (ps.take k) + m)))) [] rfl ?_)
          | go_in)
        intro w2 hm2 hg2
        rw [← HW1.out] at hg2
        have hM2 := HM1.out.put hm2
        have hbl : w2.heap[wr.heap.size]? = W1.heap[wr.heap.size]? := hg2.block _ (by omega) (by intro e; injection e; omega)
        have d1 : w2.cell? ⟨wr.heap.size, 1, none⟩ = some (.string c) := (World.cell?_of_block (a := ⟨wr.heap.size, 1, none⟩) hbl).trans HC0.out.2.1
        have d2 : w2.cell? ⟨wr.heap.size, 2, none⟩ = some (.int .i64 m) := (World.cell?_of_block (a := ⟨wr.heap.size, 2, none⟩) hbl).trans HC0.out.2.2
        have l2 := hM2.look c (by unfold maxLen; omega)
        have hB2 : Below w.heap.size w w2 := (HB.out.trans (HB1.out.mono hsw)).grown hg2 (by omega) (fun j e => by cases e; exact Nat.le_refl _)
        have hs2 := hg2.size
        obtain ⟨b2, hb2⟩ : ∃ z : Int, z = (if c = d then wrap64 (bal d 0 (ps.take k) + m) else bal c 0 (ps.take k)) := ⟨_, rfl⟩
        rw [← hb2] at l2
        have HB2E := hidE hb2
        have HM2 := hidE hM2
        have HB2 := hidE hB2
        clear hm2 hg2 hM2 hbl hB2 l1 hb2 HM1 HC0
        go_wp2_with (first
          | (at_mapUpdate; refine wpList_mapUpdate_own _ rfl _ _ _ 170 rfl 9 3 law_strT Tryz.underlying170 heldE w.heap.size (n + 1) _ rfl HM2.out.map (by unfold maxLen; omega) _ _ (keyB c) rfl rfl (key_str c (by unfold maxLen; omega)) (.held (.int .i64 (wrap64 (b2 - m)))) [] rfl ?_)
          | go_in)
        intro w3 hm3 hg3
        have HM3 : Hid (IMap w3 w.heap.size (n + 2) _ (fun x => bal x 0 (ps.take (k + 1))) (fun x => x ∈ accs (ps.take (k + 1)))) := imap_ext (HM2.out.put hm3) (fun z => by
          rw [HBS.out z, HB2E.out]
          unfold bal1
          simp only
          by_cases e1 : z = c
          · subst e1
            by_cases e2 : z = d
            · subst e2; simp
            · have e2' : ¬ d = z := fun x => e2 x.symm
              simp [e2, e2']
          · have e1' : ¬ c = z := fun x => e1 x.symm
            by_cases e2 : z = d
            · subst e2; simp [e1, e1']
            · have e2' : ¬ d = z := fun x => e2 x.symm
              simp [e1, e1', e2, e2']) (fun z => by
          rw [HAS.out z]
          constructor
          · rintro (h | h | h)
            · exact Or.inr (Or.inr h)
            · exact Or.inr (Or.inl h)
            · exact Or.inl h
          · rintro (h | h | h)
            · exact Or.inr (Or.inr h)
            · exact Or.inr (Or.inl h)
            · exact Or.inl h)
        have HB3 : Hid (Below w.heap.size w w3) := HB2.out.grown hg3 (by omega) (fun j e => by cases e; exact Nat.le_refl _)
        clear hm3 hg3 l2 d1 d2
        go_wp2
        go_roundw
        case rel => exact ⟨k + 1, n + 2, _, by omega, by go_num, by omega, HM3, HB3⟩
        case measure => simp [intOf]; omega
    · have hkl : k = ps.length := by omega
      subst hkl
      rw [List.take_length] at HM
      have hK := callsIn_wide.1 (Tryz.maps_Keys (some w.heap.size) wr)
      have hsz := HM.out.map.size_le
      have hSo := callsIn_wide.1 (Tryz.sorted_keys w.heap.size n D heldE wr HM.out.map (by unfold maxLen; omega) (by omega))
      obtain ⟨f, hf⟩ : ∃ f : ByteArray → Int, f = fun x => bal x 0 ps := ⟨_, rfl⟩
      rw [← hf] at HM
      have HF : Hid (f = fun x => bal x 0 ps) := hf
      have HK := hidE hK
      have HSo := hidE hSo
      have hsw := HB.out.size
      have hmw : w.heap.size < wr.heap.size := HM.out.lt
      clear hK hSo hf
      go_wp2_with fail
      refine HK.out.mono ?_
      rintro e w1 ⟨rfl, rfl⟩
      go_wp2_with fail
      refine HSo.out.mono ?_
      rintro e w2 ⟨kv, ss, rfl, hS, hrow, _, hb2⟩
      obtain ⟨ks, hks, hms⟩ := keys_of HM.out hS
      rw [hms] at hrow
      have hsl : ss.length = ks.length := by
        have h1 := congrArg List.length hms
        rw [List.length_mergeSort, List.length_map] at h1
        exact h1
      rw [hsl] at hrow
      have hrow2 : w2.ownsRow (wr.heap.size + 1) 9 1 kv ks.length (ks.flatMap fun x => [Value.string x]) := by
        have e : (ks.map fun x : ByteArray => x.data.toList).map Go.Proofs.encStr = ks.flatMap fun x => [Value.string x] := enc_flat ks
        rw [e] at hrow
        simpa using hrow
      have hkl : ks.length ≤ 20000 := by
        rw [← hsl, hS.length_eq]
        have : (strKeys D).length = Maps.size D := by
          obtain ⟨es, rfl⟩ : IsMap D := (HM.out.map.canon law_strT).imp fun es ⟨e, _⟩ => e
          simp [strKeys, Maps.size]
        omega
      have hM2 := (HM.out.below ((Below.refl _ _).alloc (Nat.le_refl _) (.cells #[.map (some w.heap.size)] 170))).below hb2
      have hB2 : Below w.heap.size w w2 := (HB.out.trans (((Below.refl _ _).alloc (Nat.le_refl _) (.cells #[.map (some w.heap.size)] 170)).mono hsw)).trans (hb2.mono (by simp; omega))
      have HM2 := hidE hM2
      have HB2 := hidE hB2
      have HKS := hidE hks
      have hs2 := hb2.size
      have HR2 := hidE hrow2
      simp only [World.size_alloc] at hs2
      have hsz8 : ∀ x ∈ ks, x.size ≤ 1000 := fun x hx => by
        have := (hks.mem x).1 hx
        unfold accs at this
        rw [List.mem_flatMap] at this
        obtain ⟨p, hp, hx⟩ := this
        simp only [List.mem_cons, List.not_mem_nil, or_false] at hx
        rcases hx with rfl | rfl
        · exact (HS.out p hp).1
        · exact (HS.out p hp).2
      have HSZ := hidE hsz8
      clear hS hrow hb2 hms hsl hM2 hB2 hks HK HSo hsz8 hsz HM
      have hform := own_form hrow2
      obtain ⟨adk, nk, cpk, hkv⟩ : ∃ ad n cap, kv = .slice ad n cap ∧ n = ks.length := by
        rcases hform with ⟨e, e2, _⟩ | ⟨g, c, e, _⟩
        · exact ⟨none, 0, 0, e, e2.symm⟩
        · exact ⟨_, _, _, e, rfl⟩
      obtain ⟨rfl, hnk⟩ := hkv
      subst hnk
      clear hform hrow2
      go_wp2
      go_loopw [6, 35] (fun u i wr => ∃ k : Nat, k ≤ ks.length ∧ i = .int .i64 k ∧ Hid (wr.ownsRow w2.heap.size 89 2 u (ks.take k).length ((ks.take k).flatMap (blcC f))) ∧ Hid (Below w2.heap.size w2 wr)) (fun _ i _ => ks.length - (intOf i).toNat)
      case atStart => exact ⟨0, Nat.zero_le _, rfl, World.ownsRow_nil _ _ _ _, Below.refl _ _⟩
      case round =>
        obtain ⟨k, hk, rfl, HO, HBW⟩ := hrel
        have hsww := HBW.out.size
        by_cases hlt : k < ks.length
        · obtain ⟨ad3, n3, cp3, hv3⟩ := own_lenL HO.out
          subst hv3
          rcases own_form HR2.out with ⟨_, e2, _⟩ | ⟨g, cp, e1, _, hgl, _⟩
          · rw [e2] at hlt; exact absurd hlt (Nat.not_lt_zero _)
          · simp only [Value.slice.injEq] at e1
            obtain ⟨rfl, _, rfl⟩ := e1
            have q0 := (own_cell (m := 1) (fun _ => rfl) HR2.out k 0 hlt (by omega)).1
            obtain ⟨x, hx⟩ : ∃ x, x = ks[k] := ⟨_, rfl⟩
            rw [← hx] at q0
            have hxs : x.size ≤ 1000 := by rw [hx]; exact HSZ.out _ (List.getElem_mem hlt)
            simp only [List.getElem?_cons_zero, Nat.mul_one, Nat.add_zero] at q0
            have q1 : wr.cell? ⟨g, k, none⟩ = some (.string x) := (HBW.out.cell (p := ⟨g, k, none⟩) hgl).trans q0
            have lk := (HM2.out.below HBW.out).look x (by unfold maxLen; omega)
            have HTK : Hid (ks.take (k + 1) = ks.take k ++ [x]) := by show _ = _; rw [hx]; exact List.take_succ_eq_append_getElem hlt
            have htl : (ks.take k).length = k := by rw [List.length_take]; omega
            have hown := HO.out
            rw [htl] at hown
            clear hx q0
            go_wp2_with (first
              | (at_builtin; refine wpList_append_new _ rfl _ _ 83 rfl w2.heap.size 89 i0 blcZ 2 24 Tryz.underlying83 hi hz0 hz1 hz2 rfl (by decide) (.slice ad3 n3 cp3) _ _ rfl (hown.alloc _) ⟨wr.heap.size, 0, none⟩ 1 1 (blcC f x) rfl rfl ?d1 ?d2 ?d3 ?d4 ?d5 (by omega) ?_)
              | go_in)
            case d1 => simpa [blcC] using cells_of_list (w := wr) (cs := blcC f x) (T := 89) rfl
            case d2 => exact blcC_one _ _
            case d3 => unfold maxLen; omega
            case d4 => omega
            case d5 => first | omega | (simp; omega)
            intro v' w5 hown5 hg5 _
            obtain ⟨ad5, nn5, cp5, hv5⟩ := own_lenL hown5
            subst hv5
            have HB5 : Hid (Below w2.heap.size w2 w5) := by
              have b1 : Below w2.heap.size w2 (wr.alloc (.cells #[.string x, .int .i64 (f x)] 89)) := HBW.out.alloc hsww _
              exact b1.grown hg5 b1.size (fun j hj => (hown.lt j hj).1)
            have HO5 : Hid (w5.ownsRow w2.heap.size 89 2 (.slice ad5 nn5 cp5) (ks.take (k + 1)).length ((ks.take (k + 1)).flatMap (blcC f))) := by
              show w5.ownsRow _ _ _ _ _ _
              rw [HTK.out, List.length_append, List.flatMap_append, htl]
              simpa using hown5
            clear hown5 hg5 hown q1 lk
            go_wp2
            go_roundw
            case rel => exact ⟨k + 1, by omega, by go_num, HO5, HB5⟩
            case measure => simp [intOf]; omega
        · have hk2 : k = ks.length := by omega
          subst hk2
          obtain ⟨ad3, n3, cp3, hv3⟩ := own_lenL HO.out
          subst hv3
          have HO5 : Hid (wr.ownsRow w.heap.size 89 2 (.slice ad3 n3 cp3) ks.length (ks.flatMap (blcC fun x => bal x 0 ps))) := by
            have h1 := HO.out
            rw [List.take_length, HF.out] at h1
            exact own_below h1 (Below.refl _ _) HB2.out.size
          have HB5 : Hid (Below w.heap.size w wr) := HB2.out.trans (HBW.out.mono HB2.out.size)
          go_wp2
          go_ret
          exact ⟨_, ks, rfl, HKS.out, HO5.out, HB5.out⟩
end Go.Proofs.YtcfgacdcgljbaaaGreatDoor
