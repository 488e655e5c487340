/- The walk of tallymanref.ParsePostings. -/
import Derived.Test.YtcfgacdcgljbaaaGreatDoorRlParse
import Derived.Test.YtcfgacdcgljbaaaGreatDoorLedRead
namespace Go.Proofs.YtcfgacdcgljbaaaGreatDoor
open Go.RowKit
theorem Tryz.infoTxt : (Tryz.prog.info? 9).map (fun i => (i.zero, i.size, i.bytes)) = some (some (.string ⟨#[]⟩), 1, 16) := by kernel_rfl
/-- What tallymanref.Fine holds. -/
def FineAt (w : World) : Prop := w.cell? ⟨0, 0, none⟩ = some (.int .i64 0) ∧ w.cell? ⟨0, 1, none⟩ = some (.int .i64 (-1))
theorem FineAt.below {w w' : World} (h : FineAt w) (hb : Below w.heap.size w w') : FineAt w' := ⟨below_cellL hb h.1, below_cellL hb h.2⟩
/-- How ParsePostings ends. -/
def RPar (s : ByteArray) (w : World) (r : Ending) (W : World) : Prop :=
  (∃ (ps : List Pst) (v : Value), (∀ p ∈ ps, Vp p) ∧ linesL s.data.toList = ps.map pline ∧ r = .returned (.tuple #[v, .agg #[.int .i64 0, .int .i64 (-1)]]) ∧ W.ownsRow w.heap.size 159 3 v ps.length (ps.flatMap pstC) ∧ Below w.heap.size w W) ∨
  (∃ (ps : List Pst) (bad : List UInt8) (rest : List (List UInt8)), (∀ p ∈ ps, Vp p) ∧ linesL s.data.toList = ps.map pline ++ bad :: rest ∧ (¬ ∃ p, Vp p ∧ pline p = bad) ∧ r = .returned (.tuple #[.slice none 0 0, .agg #[.int .i64 3, .int .i64 ps.length]]) ∧ Below w.heap.size w W)
theorem pamt_any (s : ByteArray) (w : World) (hg : Glob w) (hs : s.size ≤ 1000) :
    Calls Tryz.prog 78 #[.string s] w fun e w' => e = .returned (.tuple #[.int .i64 ((parsed s.data.toList).getD 0), .int .i64 (if (parsed s.data.toList).isSome then 0 else 3)]) ∧ Below w.heap.size w w' := by
  rcases h : parsed s.data.toList with _ | n
  · exact (refParse_bad s w hg hs h).mono fun e w' ⟨he, hb⟩ => ⟨he, hb⟩
  · exact (refParse_ok s n w hg h).mono fun e w' ⟨he, hb⟩ => ⟨he, hb⟩
theorem splitC (c : UInt8) (s : ByteArray) (w : World) (hg : Glob w) (hs : s.size ≤ 1000) :
    Calls Tryz.prog 74 #[.string s, .string ⟨#[c]⟩] w fun e w' => e = .returned (.slice (some ⟨w.heap.size, 0, none⟩) (bpc c s).length (bpc c s).length) ∧ w' = w.alloc (.cells ((bpc c s).map Value.string).toArray 9) := by
  obtain ⟨m, hm⟩ := hg.ml
  have h := Tryz.strings_Split s ⟨#[c]⟩ m w (by omega) hm (by show 1 ≤ 1; omega)
  rw [bpc_len]
  exact h
theorem txt_at (w : World) (l : List ByteArray) (k : Nat) (hk : k < l.length) : (w.alloc (.cells (l.map Value.string).toArray 9)).cell? ⟨w.heap.size, k, none⟩ = some (.string l[k]) := by
  simp [hk]
/-- Words and four empty ones behind them. -/
def olds4 (l : List ByteArray) : List Value := l.map Value.string ++ List.replicate 4 (.string ⟨#[]⟩)
theorem olds4_at (l : List ByteArray) (j : Nat) (hj : j < 4) : (olds4 l)[j]? = some (.string (l.getD j ⟨#[]⟩)) := by
  unfold olds4
  rw [List.getElem?_append]
  split
  · rename_i h
    have h' : j < l.length := by simpa using h
    simp [List.getD, h']
  · rename_i h
    have h' : l.length ≤ j := by simpa using h
    rw [List.getElem?_replicate]
    rw [if_pos (by simp; omega), List.getD, List.getElem?_eq_none h']; rfl
theorem trim_nl {s : List UInt8} (h : s.getLast? = some 10) : ∃ u, s = u ++ [10] ∧ Lib.trimSuffix s [10] = u := by
  rcases List.eq_nil_or_concat s with rfl | ⟨u, x, rfl⟩
  · cases h
  · rw [List.concat_eq_append] at h ⊢
    simp at h
    subst h
    refine ⟨u, rfl, ?_⟩
    have hs : Lib.hasSuffix (u ++ [10]) [10] = true := by unfold Lib.hasSuffix; exact List.isSuffixOf_iff_suffix.2 ⟨u, rfl⟩
    unfold Lib.trimSuffix
    rw [hs]
    simp
theorem trim_no {s : List UInt8} (h : s.getLast? ≠ some 10) : Lib.trimSuffix s [10] = s := by
  have hs : Lib.hasSuffix s [10] = false := by
    unfold Lib.hasSuffix
    apply Bool.eq_false_iff.2
    intro e
    obtain ⟨u, rfl⟩ := List.isSuffixOf_iff_suffix.1 e
    exact h (by simp)
  unfold Lib.trimSuffix
  rw [hs]
  simp
theorem trim_len (s : List UInt8) : (Lib.trimSuffix s [10]).length ≤ s.length := by
  unfold Lib.trimSuffix
  split
  · rw [List.length_take]; omega
  · exact Nat.le_refl _
/-- What the parts of the text, its last line feed away, are to its lines. -/
theorem lines_of (s : List UInt8) (hz : s ≠ []) : linesL s = (pcs 10 (Lib.trimSuffix s [10])).map (· ++ [10]) ∨ ∃ M z, pcs 10 (Lib.trimSuffix s [10]) = M ++ [z] ∧ linesL s = M.map (· ++ [10]) ++ [z] ∧ (10 : UInt8) ∉ z := by
  by_cases h : s.getLast? = some 10
  · obtain ⟨u, e, e2⟩ := trim_nl h
    rw [e2]
    left
    rw [e]
    exact lines_nl u
  · rw [trim_no h]
    exact Or.inr (lines_no s hz h)
theorem lines_yes {s : List UInt8} (h : s.getLast? = some 10) : linesL s = (pcs 10 (Lib.trimSuffix s [10])).map (· ++ [10]) := by
  obtain ⟨u, e, e2⟩ := trim_nl h
  rw [e2, e]
  exact lines_nl u
theorem lines_not {s : List UInt8} (hz : s ≠ []) (h : s.getLast? ≠ some 10) : ∃ M z, pcs 10 (Lib.trimSuffix s [10]) = M ++ [z] ∧ linesL s = M.map (· ++ [10]) ++ [z] ∧ (10 : UInt8) ∉ z := by
  rw [trim_no h]
  exact lines_no s hz h
theorem last_byte (s : ByteArray) (h : s.size - 1 < s.size) : s.data.toList.getLast? = some (s[s.size - 1]'h) := by
  rw [List.getLast?_eq_getElem?, ← size_ba, Array.getElem?_toList]
  exact Array.getElem?_eq_getElem (xs := s.data) h
theorem byte_ten {x : UInt8} : (((x.toNat : Int) != 10) = false) ↔ x = 10 := by
  rw [bne_eq_false_iff_eq]
  constructor
  · intro h
    apply UInt8.toNat_inj.1
    have : x.toNat = 10 := by omega
    rw [this]; rfl
  · rintro rfl; rfl
theorem pls_ok : ∀ {l : List ByteArray}, (∀ t ∈ l, okL t) → (l.map pOf).map pline = (l.map fun b => b.data.toList).map (· ++ [10])
  | [], _ => rfl
  | t :: l, h => by
    simp only [List.map_cons]
    rw [(h t List.mem_cons_self).2.2.2.2.2, pls_ok fun x hx => h x (List.mem_cons_of_mem _ hx)]
theorem vps_ok {l : List ByteArray} (h : ∀ t ∈ l, okL t) : ∀ p ∈ l.map pOf, Vp p := by
  intro p hp
  obtain ⟨t, ht, rfl⟩ := List.mem_map.1 hp
  exact vp_of (h t ht)
/-- The first line that is none. -/
theorem bad_par {s u : List UInt8} {Ls : List ByteArray} (hL : Ls.map (fun b => b.data.toList) = pcs 10 u) (hln : linesL s = (pcs 10 u).map (· ++ [10]) ∨ ∃ M z, pcs 10 u = M ++ [z] ∧ linesL s = M.map (· ++ [10]) ++ [z] ∧ (10 : UInt8) ∉ z) {k : Nat} (hk : k < Ls.length) (hok : ∀ t ∈ Ls.take k, okL t) (hb : ¬ okL Ls[k]) :
    ∃ bad rest, (∀ p ∈ (Ls.take k).map pOf, Vp p) ∧ linesL s = ((Ls.take k).map pOf).map pline ++ bad :: rest ∧ ¬ ∃ p, Vp p ∧ pline p = bad := by
  have hbad : ¬ ∃ p, Vp p ∧ pline p = Ls[k].data.toList ++ [10] := fun h => hb ((okL_iff _).2 h)
  have hsplit : ((Ls.take k).map pOf).map pline ++ (Ls[k].data.toList ++ [10]) :: ((Ls.drop (k + 1)).map fun b => b.data.toList).map (· ++ [10]) = (pcs 10 u).map (· ++ [10]) := by
    rw [pls_ok hok, ← hL]
    conv => rhs; rw [← List.take_append_drop k Ls, List.drop_eq_getElem_cons hk, List.map_append, List.map_append, List.map_cons, List.map_cons]
  obtain ⟨bad', rest', h1, h2⟩ := ref_lines hln hsplit hbad
  exact ⟨bad', rest', vps_ok hok, h1, h2⟩
/-- All lines are postings, but the last line has no line feed. -/
theorem end_par {s u : List UInt8} {Ls : List ByteArray} (hL : Ls.map (fun b => b.data.toList) = pcs 10 u) (hln : ∃ M z, pcs 10 u = M ++ [z] ∧ linesL s = M.map (· ++ [10]) ++ [z] ∧ (10 : UInt8) ∉ z) (hok : ∀ t ∈ Ls, okL t) :
    ∃ (ps : List Pst) (bad : List UInt8) (rest : List (List UInt8)), (∀ p ∈ ps, Vp p) ∧ linesL s = ps.map pline ++ bad :: rest ∧ (¬ ∃ p, Vp p ∧ pline p = bad) ∧ ps.length + 1 = Ls.length := by
  obtain ⟨M, z, h1, h2, h3⟩ := hln
  rcases List.eq_nil_or_concat Ls with rfl | ⟨K, y, rfl⟩
  · rw [← hL] at h1
    simp at h1
  · rw [List.concat_eq_append] at hL hok ⊢
    rw [← hL, List.map_append, List.map_singleton] at h1
    have e := List.append_inj' h1 rfl
    have hoK : ∀ t ∈ K, okL t := fun t ht => hok t (by simp [ht])
    refine ⟨K.map pOf, z, [], vps_ok hoK, ?_, no_nl h3, by simp⟩
    rw [h2, ← e.1, pls_ok hoK]
theorem good_par {s u : List UInt8} {Ls : List ByteArray} (hL : Ls.map (fun b => b.data.toList) = pcs 10 u) (hln : linesL s = (pcs 10 u).map (· ++ [10])) (hok : ∀ t ∈ Ls, okL t) : linesL s = (Ls.map pOf).map pline := by
  rw [hln, ← hL, pls_ok hok]
theorem words_at {W : World} {B : Nat} {v : Value} {ws : List ByteArray} {p0 p1 p3 : ByteArray} (h : W.ownsRow B 9 1 v (ws.length + 4) (ws.map Value.string ++ List.replicate 4 (.string ⟨#[]⟩))) (ho : (olds4 ws)[0]? = some (.string p0) ∧ (olds4 ws)[1]? = some (.string p1) ∧ (olds4 ws)[3]? = some (.string p3)) :
    ∃ g cap, v = .slice (some ⟨g, 0, none⟩) (ws.length + 4) cap ∧ (W.cell? ⟨g, 0, none⟩ = some (.string p0) ∧ W.cell? ⟨g, 1, none⟩ = some (.string p1) ∧ W.cell? ⟨g, 3, none⟩ = some (.string p3)) := by
  rcases h.2 with ⟨_, h0⟩ | ⟨g, cap, cur, hv, _⟩
  · omega
  · have hc := h.cells (g := g) (by rw [hv]; rfl)
    refine ⟨g, cap, hv, ?_, ?_, ?_⟩
    · have := hc 0 _ ho.1; rwa [Addr.add_lit] at this
    · have := hc 1 _ ho.2.1; rwa [Addr.add_lit] at this
    · have := hc 3 _ ho.2.2; rwa [Addr.add_lit] at this
set_option maxRecDepth 100000 in
set_option maxHeartbeats 8000000 in
theorem rpars_any (s : ByteArray) (w : World) (hg : Glob w) (hf : FineAt w) (hs : s.size ≤ 600) : Calls Tryz.prog 30 #[.string s] w (RPar s w) := by
  obtain ⟨i0, hi, hz0, hz1, hz2⟩ := info_parts Tryz.infoTxt
  obtain ⟨i1, hj, hy0, hy1, hy2⟩ := info_parts Tryz.infoRpst
  by_cases hz : s.size = 0
  · have hzl : s.data.toList = [] := List.eq_nil_of_length_eq_zero (by rw [← size_ba]; exact hz)
    have hzt : s.toList = [] := by rw [ByteArray.toList_eq]; exact hzl
    have c0 := hf.1
    have c1 := hf.2
    have HZ := hidP hzl
    clear hg hf hzl hi hz0 hz1 hz2 hj hy0 hy1 hy2
    go_enter Tryz.func30, Tryz.ntmps30
    go_wp2_with fail
    refine wp_region_turn [(.read, 0), (.pure, 1), (.turn, 2)] (by kernel_rfl) (by kernel_rfl) ?_
    have hU := up_ne
    have hA := anyW_ne
    obtain ⟨W7, hW7⟩ : ∃ W, W = (w.alloc (.cells #[.int .i64 0, .int .i64 0] 91)).drew := ⟨_, rfl⟩
    rw [← hW7]
    have hb7 : Below w.heap.size w W7 := by rw [hW7]; exact ((Below.refl _ _).alloc (Nat.le_refl _) _).trans ((below_drew _).mono (by simp))
    have r0 : W7.cell? ⟨w.heap.size, 0, none⟩ = some (.int .i64 0) := by rw [hW7]; show (w.alloc _).cell? _ = _; simp
    have r1 : W7.cell? ⟨w.heap.size, 1, none⟩ = some (.int .i64 0) := by rw [hW7]; show (w.alloc _).cell? _ = _; simp
    have z0 : W7.frozen? ⟨w.heap.size, 0, none⟩ = false := by rw [hW7]; show (w.alloc _).frozen? _ = _; simp
    have z1 : W7.frozen? ⟨w.heap.size, 1, none⟩ = false := by rw [hW7]; show (w.alloc _).frozen? _ = _; simp
    have p0 := fun n : Up W7 => n.cell (below_cellL hb7 c0)
    have p1 := fun n : Up W7 => n.cell (below_cellL hb7 c1)
    clear hW7 c0 c1
    repeat (first | refine turn_p rfl ?_ | refine turn_q rfl ?_); go_big_quiet_step (fail); refine wpQuiet_nil ?_
    refine turn_t rfl ?_
    go_wp2_with fail
    refine ⟨rfl, ?_⟩
    refine turn_nil ?_
    have e0 : ((W7.setCell ⟨w.heap.size, 0, none⟩ (.int .i64 0)).setCell ⟨w.heap.size, 1, none⟩ (.int .i64 (-1))).cell? ⟨w.heap.size, 0, none⟩ = some (.int .i64 0) := (setP_other (by simp)).trans (setP_same r0)
    have e1 : ((W7.setCell ⟨w.heap.size, 0, none⟩ (.int .i64 0)).setCell ⟨w.heap.size, 1, none⟩ (.int .i64 (-1))).cell? ⟨w.heap.size, 1, none⟩ = some (.int .i64 (-1)) := setP_same ((setP_other (by simp)).trans r1)
    have HE := hidP (And.intro e0 e1)
    have HB := hidP hb7
    clear e0 e1 hb7 r0 r1 z0 z1 p0 p1 hU hA
    go_wp2
    have e0 := HE.out.1
    have e1 := HE.out.2
    refine bodyPost_ret (v := .tuple #[.slice none 0 0, .agg #[.int .i64 0, .int .i64 (-1)]]) (by simp [results, Tryz.results30, go_sem, e0, e1]) rfl ?_
    exact .inl ⟨[], .slice none 0 0, (fun p hp => by cases hp), by rw [HZ.out]; rfl, rfl, World.ownsRow_nil _ _ _ _, (HB.out.setCell (p := ⟨w.heap.size, 0, none⟩) (Nat.le_refl _) _).setCell (p := ⟨w.heap.size, 1, none⟩) (Nat.le_refl _) _⟩
  · have hne : s.data.toList ≠ [] := fun e => hz (by rw [size_ba, e]; rfl)
    have hnz : s.toList.isEmpty = false := by rw [ByteArray.toList_eq]; simpa using hne
    have HLN := hidP (lines_of s.data.toList hne)
    have htl := trim_len s.data.toList
    obtain ⟨W0, hW0⟩ : ∃ W, W = w.alloc (.cells #[.int .i64 0, .int .i64 0] 91) := ⟨_, rfl⟩
    have hb0 : Below w.heap.size w W0 := by rw [hW0]; exact (Below.refl _ _).alloc (Nat.le_refl _) _
    have hs0 : W0.heap.size = w.heap.size + 1 := by rw [hW0]; simp
    have hF0 : W0.cell? ⟨w.heap.size, 0, none⟩ = some (.int .i64 0) ∧ W0.cell? ⟨w.heap.size, 1, none⟩ = some (.int .i64 0) ∧ W0.frozen? ⟨w.heap.size, 0, none⟩ = false ∧ W0.frozen? ⟨w.heap.size, 1, none⟩ = false := by rw [hW0]; simp
    have htr := Tryz.strings_TrimSuffix s ⟨#[10]⟩ W0 (by omega)
    have e10 : (⟨#[10]⟩ : ByteArray).data.toList = [10] := rfl
    rw [e10] at htr
    obtain ⟨u, hu⟩ : ∃ u : ByteArray, u = ⟨(Lib.trimSuffix s.data.toList [10]).toArray⟩ := ⟨_, rfl⟩
    have hul : u.data.toList = Lib.trimSuffix s.data.toList [10] := by rw [hu]
    have hus : u.size ≤ 600 := by rw [size_ba, hul]; rw [size_ba] at hs; omega
    rw [← hu] at htr
    rw [← hul] at HLN
    have HUL := hidP hul
    have HNE := hidP hne
    have hsp := splitC 10 u W0 (hg.below hb0) (by omega)
    have HPI := hidP (bpc_is 10 u)
    have HPS := hidP (fun x hx => bpc_size 10 u x hx)
    have hpf := bpc_few 10 u
    obtain ⟨Ls, hLs⟩ : ∃ l, l = bpc 10 u := ⟨_, rfl⟩
    rw [← hLs] at hsp HPI HPS hpf
    obtain ⟨W1, hW1⟩ : ∃ W, W = W0.alloc (.cells (Ls.map Value.string).toArray 9) := ⟨_, rfl⟩
    have hb01 : Below W0.heap.size W0 W1 := by rw [hW1]; exact (Below.refl _ _).alloc (Nat.le_refl _) _
    have hb1 : Below w.heap.size w W1 := hb0.trans (hb01.mono hb0.size)
    have HCL : Hid (∀ k (hk : k < Ls.length), W1.cell? ⟨w.heap.size + 1, k, none⟩ = some (.string Ls[k])) := fun k hk => by rw [hW1, ← hs0]; exact txt_at W0 Ls k hk
    have HRES : Hid (W1.cell? ⟨w.heap.size, 0, none⟩ = some (.int .i64 0) ∧ W1.cell? ⟨w.heap.size, 1, none⟩ = some (.int .i64 0) ∧ W1.frozen? ⟨w.heap.size, 0, none⟩ = false ∧ W1.frozen? ⟨w.heap.size, 1, none⟩ = false) := ⟨below_cellL hb01 hF0.1, below_cellL hb01 hF0.2.1, (hb01.frozen (p := ⟨w.heap.size, 0, none⟩) (by show w.heap.size < W0.heap.size; omega)).trans hF0.2.2.1, (hb01.frozen (p := ⟨w.heap.size, 1, none⟩) (by show w.heap.size < W0.heap.size; omega)).trans hF0.2.2.2⟩
    rw [← hW1] at hsp
    have HB1 := hidP hb1
    have HG := hidP hg
    have HF := hidP hf
    have hws : W1.heap.size = w.heap.size + 2 := by rw [hW1]; simp [hs0]
    have HW0 := hidP hW0
    clear htl e10 hu hul hLs hW1 hb1 hb01 hb0 hF0 hW0 hg hf hne hz
    go_enter Tryz.func30, Tryz.ntmps30
    go_wp2_with fail
    rw [← HW0.out]
    refine htr.mono ?_
    rintro e w' ⟨rfl, hw⟩
    subst w'
    clear htr HW0
    go_wp2_with fail
    refine hsp.mono ?_
    rintro e w' ⟨rfl, hw⟩
    subst w'
    clear hsp
    rw [hs0]
    have HS0 := hidP hs0
    clear hs0
    go_wp2
    go_loopw [4, 21] (fun lv i wr => ∃ k : Nat, k ≤ Ls.length ∧ i = .int .i64 k ∧ Hid (∀ t ∈ Ls.take k, okL t) ∧ Hid (wr.ownsRow W1.heap.size 159 3 lv (Ls.take k).length (((Ls.take k).map pOf).flatMap pstC)) ∧ Hid (Below W1.heap.size W1 wr)) (fun _ i _ => Ls.length - (intOf i).toNat)
    case atStart => exact ⟨0, Nat.zero_le _, rfl, (fun t ht => by simp at ht), World.ownsRow_nil _ _ _ _, Below.refl _ _⟩
    case round =>
      obtain ⟨k, hk, rfl, HOK, HO, HB⟩ := hrel
      have HBw : Hid (Below w.heap.size w wr) := HB1.out.trans (HB.out.mono HB1.out.size)
      by_cases hlt : k < Ls.length
      · have q := (HB.out.cell (p := ⟨w.heap.size + 1, k, none⟩) (by show w.heap.size + 1 < W1.heap.size; omega)).trans (HCL.out k hlt)
        have hts : (Ls[k]).size ≤ 600 := Nat.le_trans (HPS.out _ (List.getElem_mem hlt)) hus
        have HTK : Hid (Ls.take (k + 1) = Ls.take k ++ [Ls[k]]) := List.take_succ_eq_append_getElem hlt
        obtain ⟨t, ht⟩ : ∃ t, t = Ls[k] := ⟨_, rfl⟩
        have HT := hidP ht
        rw [← ht] at q hts HTK
        clear ht
        have hsp := splitC 32 t wr (HG.out.below HBw.out) (by omega)
        have hpf2 := bpc_few 32 t
        obtain ⟨ws, hws2⟩ : ∃ l, l = bpc 32 t := ⟨_, rfl⟩
        have HWS := hidP hws2
        rw [← hws2] at hsp hpf2
        clear hws2
        obtain ⟨W2, hW2⟩ : ∃ W, W = wr.alloc (.cells (ws.map Value.string).toArray 9) := ⟨_, rfl⟩
        have hb2 : Below wr.heap.size wr W2 := by rw [hW2]; exact (Below.refl _ _).alloc (Nat.le_refl _) _
        have HC2 : Hid (∀ j (hj : j < ws.length), W2.cell? ⟨wr.heap.size, j, none⟩ = some (.string ws[j])) := fun j hj => by rw [hW2]; exact txt_at wr ws j hj
        rw [← hW2] at hsp
        clear hW2
        go_wp2_with fail
        refine hsp.mono ?_
        rintro e w' ⟨rfl, hw⟩
        subst w'
        clear hsp q
        obtain ⟨W3, hW3⟩ : ∃ W, W = W2.alloc (.cells #[.string ⟨#[]⟩, .string ⟨#[]⟩, .string ⟨#[]⟩, .string ⟨#[]⟩] 9) := ⟨_, rfl⟩
        have hb3 : Below W2.heap.size W2 W3 := by rw [hW3]; exact (Below.refl _ _).alloc (Nat.le_refl _) _
        have H1 : Hid (∀ b, (some ⟨wr.heap.size, 0, none⟩ : Option Addr) = some b → ∀ (j : Nat) (x : Value), (ws.map Value.string)[j]? = some x → W3.cell? (b.add j) = some x) := by
          intro b hb j x hx
          cases hb
          rw [List.getElem?_map] at hx
          rcases hj2 : ws[j]? with _ | y
          · rw [hj2] at hx; cases hx
          · rw [hj2] at hx
            obtain ⟨hlt2, hy⟩ := List.getElem?_eq_some_iff.1 hj2
            cases hx
            rw [Addr.add_lit, Nat.zero_add, below_cellL hb3 (HC2.out j hlt2), hy]
        have H2 : Hid (∀ (j : Nat) (x : Value), (List.replicate 4 (Value.string ⟨#[]⟩))[j]? = some x → W3.cell? ((⟨W2.heap.size, 0, none⟩ : Addr).add j) = some x) := by
          intro j x hx
          have hj4 : j < 4 := by have := (List.getElem?_eq_some_iff.1 hx).1; simpa using this
          rw [hW3]
          have : j = 0 ∨ j = 1 ∨ j = 2 ∨ j = 3 := by omega
          rcases this with rfl | rfl | rfl | rfl <;> (cases hx; rw [Addr.add_lit]; simp)
        have H3 : Hid (∀ x ∈ List.replicate 4 (Value.string ⟨#[]⟩), x.oneCell' = true) := by
          intro x hx
          rw [List.eq_of_mem_replicate hx]; rfl
        have HW3 := hidP hW3
        have HB3 : Hid (Below wr.heap.size wr W3) := hb2.trans (hb3.mono hb2.size)
        obtain ⟨p0, hp0⟩ : ∃ x, (ws).getD 0 ⟨#[]⟩ = x := ⟨_, rfl⟩
        obtain ⟨p1, hp1⟩ : ∃ x, (ws).getD 1 ⟨#[]⟩ = x := ⟨_, rfl⟩
        obtain ⟨p3, hp3⟩ : ∃ x, (ws).getD 3 ⟨#[]⟩ = x := ⟨_, rfl⟩
        have HOL : Hid ((olds4 ws)[0]? = some (.string p0) ∧ (olds4 ws)[1]? = some (.string p1) ∧ (olds4 ws)[3]? = some (.string p3)) := ⟨by rw [olds4_at _ 0 (by omega), hp0], by rw [olds4_at _ 1 (by omega), hp1], by rw [olds4_at _ 3 (by omega), hp3]⟩
        have HPO : Hid (pOf t = ⟨p1, p3, (parsed p0.data.toList).getD 0⟩) := by
          show pOf t = _
          unfold pOf
          rw [← HWS.out, hp0, hp1, hp3]
        have HK0 : Hid ((∃ n, parsed ((bpc 32 t).getD 0 ⟨#[]⟩).data.toList = some n) ↔ ∃ n, parsed p0.data.toList = some n) := by
          show _ ↔ _
          rw [← HWS.out, hp0]
        have hzs : p0.size ≤ 600 ∧ p1.size ≤ 600 ∧ p3.size ≤ 600 := by
          have hh : ∀ j, (ws.getD j ⟨#[]⟩).size ≤ 600 := fun j => by
            rw [List.getD]
            rcases hj2 : ws[j]? with _ | y
            · show 0 ≤ 600; omega
            · have hm := List.mem_of_getElem? hj2
              rw [HWS.out] at hm
              have := bpc_size 32 t y hm
              show y.size ≤ 600
              omega
          rw [← hp0, ← hp1, ← hp3]
          exact ⟨hh 0, hh 1, hh 3⟩
        clear hW3 hb2 hb3 hp0 hp1 hp3
        go_wp2_with (at_builtin; rw [← HW3.out]; refine wpList_append_grows _ rfl _ _ 171 rfl 9 i0 (.string ⟨#[]⟩) 1 16 Tryz.underlying171 hi hz0 hz1 hz2 rfl (by decide) (some ⟨wr.heap.size, 0, none⟩) ws.length ws.length (ws.map Value.string) rfl (by simp) (by simp) H1.out ⟨W2.heap.size, 0, none⟩ 4 4 (List.replicate 4 (.string ⟨#[]⟩)) rfl rfl H2.out H3.out (by omega) (by unfold maxLen; omega) (by omega) ?_; intro v' W4 hown hgrow; have HOW4 := hidP hown; have HGR4 := hidP hgrow; clear hown hgrow; obtain ⟨g, cap, hvv, hgc⟩ : ∃ g cap, v' = .slice (some ⟨g, 0, none⟩) (ws.length + 4) cap ∧ (W4.cell? ⟨g, 0, none⟩ = some (.string p0) ∧ W4.cell? ⟨g, 1, none⟩ = some (.string p1) ∧ W4.cell? ⟨g, 3, none⟩ = some (.string p3)) := words_at HOW4.out HOL.out; subst hvv; obtain ⟨u0, u1, u3⟩ := hgc)
        have HB4 : Hid (Below wr.heap.size wr W4) := HB3.out.grown HGR4.out HB3.out.size (by simp)
        have hpa := pamt_any p0 W4 (HG.out.below (HBw.out.trans (HB4.out.mono HBw.out.size))) (by omega)
        obtain ⟨n, hn⟩ : ∃ n, n = (parsed p0.data.toList).getD 0 := ⟨_, rfl⟩
        obtain ⟨er, her⟩ : ∃ x : Int, x = if (parsed p0.data.toList).isSome then 0 else 3 := ⟨_, rfl⟩
        rw [← hn, ← her] at hpa
        rw [← hn] at HPO
        have HER := hidP her
        have HNN := hidP hn
        clear hn her H1 H2 H3
        refine hpa.mono ?_
        rintro e W5 ⟨rfl, hb5⟩
        clear hpa
        have v0 := below_cellL hb5 u1
        have v3 := below_cellL hb5 u3
        have HB5 : Hid (Below wr.heap.size wr W5) := HB4.out.trans (hb5.mono HB4.out.size)
        clear u0 u1 u3 hb5
        go_wp2_with fail
        refine wp_region_turn [(.pure, 0), (.pure, 1), (.read, 2), (.pure, 3), (.pure, 4), (.read, 5), (.pure, 6), (.pure, 7), (.make, 8), (.turn, 9)] (by kernel_rfl) (by kernel_rfl) ?_
        have hU := up_ne
        have hA := anyW_ne
        obtain ⟨W6, hW6⟩ : ∃ W, W = W5.drew := ⟨_, rfl⟩
        rw [← hW6]
        have hb6 : Below W5.heap.size W5 W6 := by rw [hW6]; exact below_drew _
        have y0 := fun n : Up W6 => n.cell (below_cellL hb6 v0)
        have y1 := fun n : Up W6 => n.cell (below_cellL hb6 v3)
        have HB6 : Hid (Below wr.heap.size wr W6) := HB5.out.trans (hb6.mono HB5.out.size)
        clear hW6 hb6 v0 v3
        repeat (first | refine turn_p rfl ?_ | refine turn_q rfl ?_); go_big_quiet_step (fail); refine wpQuiet_nil ?_
        refine turn_n rfl ?_
        clear y0 y1
        go_wp2_with fail
        refine ⟨rfl, (Below.refl _ _).alloc (Nat.le_refl _) _, ?_⟩
        refine turn_t rfl ?_
        go_wp2_with fail
        refine ⟨rfl, ?_⟩
        refine turn_nil ?_
        obtain ⟨W7, hW7⟩ : ∃ W, W = W6.alloc (.cells #[.string p1, .string p3, .int .i64 n] 159) := ⟨_, rfl⟩
        have d0 : W7.cell? ⟨W6.heap.size, 0, none⟩ = some (.string p1) := by rw [hW7]; simp
        have d1 : W7.cell? ⟨W6.heap.size, 1, none⟩ = some (.string p3) := by rw [hW7]; simp
        have d2 : W7.cell? ⟨W6.heap.size, 2, none⟩ = some (.int .i64 n) := by rw [hW7]; simp
        have HB7 : Hid (Below wr.heap.size wr W7) := by rw [hW7]; exact HB6.out.trans (((Below.refl _ _).alloc (Nat.le_refl _) _).mono HB6.out.size)
        have HBW : Hid (Below W1.heap.size W1 W7) := HB.out.trans (HB7.out.mono HB.out.size)
        rw [← hW7]
        clear hW7
        have hac1 := accC_any p1 W7 (HG.out.below (HB1.out.trans (HBW.out.mono HB1.out.size))) (by omega)
        have hac3 := accC_any p3 W7 (HG.out.below (HB1.out.trans (HBW.out.mono HB1.out.size))) (by omega)
        have HR0 := hidP (below_cellL HBW.out HRES.out.1)
        have HR1 := hidP (below_cellL HBW.out HRES.out.2.1)
        have HZ0 : Hid (W7.frozen? ⟨w.heap.size, 0, none⟩ = false) := (HBW.out.frozen (p := ⟨w.heap.size, 0, none⟩) (by show w.heap.size < W1.heap.size; omega)).trans HRES.out.2.2.1
        have HZ1 : Hid (W7.frozen? ⟨w.heap.size, 1, none⟩ = false) := (HBW.out.frozen (p := ⟨w.heap.size, 1, none⟩) (by show w.heap.size < W1.heap.size; omega)).trans HRES.out.2.2.2
        have HBADG : Hid (∀ V, Below W1.heap.size W1 V → ¬ okL t → ∀ WX, WX = (V.setCell ⟨w.heap.size, 0, none⟩ (.int .i64 3)).setCell ⟨w.heap.size, 1, none⟩ (.int .i64 k) → RPar s w (.returned (.tuple #[.slice none 0 0, .agg #[.int .i64 3, .int .i64 k]])) WX ∧ WX.cell? ⟨w.heap.size, 0, none⟩ = some (.int .i64 3) ∧ WX.cell? ⟨w.heap.size, 1, none⟩ = some (.int .i64 k)) := fun V hV hno WX hWX => by
          rw [HT.out] at hno
          obtain ⟨bad, rest, h1, h2, h3⟩ := bad_par HPI.out HLN.out hlt HOK.out hno
          refine ⟨.inr ⟨_, bad, rest, h1, h2, h3, ?_, ?_⟩, ?_, ?_⟩
          · rw [List.length_map, List.length_take, Nat.min_eq_left hk]
          · rw [hWX]
            exact ((HB1.out.trans (hV.mono HB1.out.size)).setCell (p := ⟨w.heap.size, 0, none⟩) (Nat.le_refl _) _).setCell (p := ⟨w.heap.size, 1, none⟩) (Nat.le_refl _) _
          · rw [hWX]; exact (setP_other (by simp)).trans (setP_same (below_cellL hV HRES.out.1))
          · rw [hWX]; exact setP_same ((setP_other (by simp)).trans (below_cellL hV HRES.out.2.1))
        obtain ⟨WX, hWX⟩ : ∃ W, W = (W7.setCell ⟨w.heap.size, 0, none⟩ (.int .i64 3)).setCell ⟨w.heap.size, 1, none⟩ (.int .i64 k) := ⟨_, rfl⟩
        have HBAD : Hid (¬ okL t → RPar s w (.returned (.tuple #[.slice none 0 0, .agg #[.int .i64 3, .int .i64 k]])) WX ∧ WX.cell? ⟨w.heap.size, 0, none⟩ = some (.int .i64 3) ∧ WX.cell? ⟨w.heap.size, 1, none⟩ = some (.int .i64 k)) := fun hno => HBADG.out W7 HBW.out hno WX hWX
        have HWX := hidP hWX
        clear hWX
        have HOKT : Hid (okL t ↔ ((∃ n, parsed p0.data.toList = some n) ∧ 1 ≤ n ∧ p1 ∈ accL ∧ p3 ∈ accL ∧ p1 ≠ p3 ∧ pline ⟨p1, p3, n⟩ = t.data.toList ++ [10])) := by
          show _ ↔ _
          unfold okL
          rw [HPO.out, HK0.out]
        have r0 := HR0.out
        have r1 := HR1.out
        have z0 := HZ0.out
        have z1 := HZ1.out
        rcases hpz : parsed p0.data.toList with _ | n'
        · have her : er = 3 := by have := HER.out; rw [this, hpz]; rfl
          have hbad := HBAD.out (fun h => by obtain ⟨⟨m, hm⟩, _⟩ := HOKT.out.1 h; rw [hpz] at hm; cases hm)
          have HX := hidP hbad
          clear hbad hpz HER HNN
          subst her
          go_wp2
          rw [← HWX.out]
          have e0 := HX.out.2.1
          have e1 := HX.out.2.2
          exact bodyPost_ret (v := .tuple #[.slice none 0 0, .agg #[.int .i64 3, .int .i64 k]]) (by simp [results, Tryz.results30, go_sem, e0, e1]) rfl HX.out.1
        · have her : er = 0 := by have := HER.out; rw [this, hpz]; rfl
          subst her
          have hni : n = n' := by have := HNN.out; rw [this, hpz]; rfl
          have HEX : Hid (∃ m, parsed p0.data.toList = some m) := ⟨n', hpz⟩
          have HNB : Hid (I64 n) := by
            obtain ⟨_, b1, b2, _, _⟩ := parsed_some hpz
            show I64 n
            unfold I64
            omega
          clear HER HNN hpz hni
          by_cases h2 : 1 ≤ n
          rotate_left
          · have HX := hidP (HBAD.out (fun h => h2 (HOKT.out.1 h).2.1))
            have h2' : n < 1 := by omega
            clear hac1 hac3
            go_wp2
            rw [← HWX.out]
            have e0 := HX.out.2.1
            have e1 := HX.out.2.2
            exact bodyPost_ret (v := .tuple #[.slice none 0 0, .agg #[.int .i64 3, .int .i64 k]]) (by simp [results, Tryz.results30, go_sem, e0, e1]) rfl HX.out.1
          have h2' : ¬ n < 1 := by omega
          clear h2
          by_cases h3 : p1 ∈ accL
          rotate_left
          · have HX := hidP (HBAD.out (fun h => h3 (HOKT.out.1 h).2.2.1))
            have hat : accT p1 = false := Bool.eq_false_iff.2 fun e => h3 ((accT_iff p1).1 e)
            rw [hat] at hac1
            clear hac3 hat
            go_wp2_with fail
            refine hac1.mono ?_
            rintro e w' ⟨rfl, hw⟩
            subst w'
            clear hac1
            go_wp2
            rw [← HWX.out]
            have e0 := HX.out.2.1
            have e1 := HX.out.2.2
            exact bodyPost_ret (v := .tuple #[.slice none 0 0, .agg #[.int .i64 3, .int .i64 k]]) (by simp [results, Tryz.results30, go_sem, e0, e1]) rfl HX.out.1
          have hat1 := (accT_iff p1).2 h3
          rw [hat1] at hac1
          clear hat1
          by_cases h4 : p3 ∈ accL
          rotate_left
          · have HX := hidP (HBAD.out (fun h => h4 (HOKT.out.1 h).2.2.2.1))
            have hat : accT p3 = false := Bool.eq_false_iff.2 fun e => h4 ((accT_iff p3).1 e)
            rw [hat] at hac3
            clear hat
            go_wp2_with fail
            refine hac1.mono ?_
            rintro e w' ⟨rfl, hw⟩
            subst w'
            clear hac1
            go_wp2_with fail
            refine hac3.mono ?_
            rintro e w' ⟨rfl, hw⟩
            subst w'
            clear hac3
            go_wp2
            rw [← HWX.out]
            have e0 := HX.out.2.1
            have e1 := HX.out.2.2
            exact bodyPost_ret (v := .tuple #[.slice none 0 0, .agg #[.int .i64 3, .int .i64 k]]) (by simp [results, Tryz.results30, go_sem, e0, e1]) rfl HX.out.1
          have hat3 := (accT_iff p3).2 h4
          rw [hat3] at hac3
          clear hat3
          by_cases h5 : p1 = p3
          · have HX := hidP (HBAD.out (fun h => (HOKT.out.1 h).2.2.2.2.1 h5))
            have h5' : (p1.toList == p3.toList) = true := by rw [h5]; simp
            clear h5
            go_wp2_with fail
            refine hac1.mono ?_
            rintro e w' ⟨rfl, hw⟩
            subst w'
            clear hac1
            go_wp2_with fail
            refine hac3.mono ?_
            rintro e w' ⟨rfl, hw⟩
            subst w'
            clear hac3
            go_wp2
            rw [← HWX.out]
            have e0 := HX.out.2.1
            have e1 := HX.out.2.2
            exact bodyPost_ret (v := .tuple #[.slice none 0 0, .agg #[.int .i64 3, .int .i64 k]]) (by simp [results, Tryz.results30, go_sem, e0, e1]) rfl HX.out.1
          have h5' : (p1.toList == p3.toList) = false := by
            apply Bool.eq_false_iff.2
            intro e
            have e2 := eq_of_beq e
            rw [ByteArray.toList_eq, ByteArray.toList_eq] at e2
            exact h5 (ByteArray.ext (Array.toList_inj.1 e2))
          have H345 := hidP (And.intro h3 (And.intro h4 h5))
          clear h3 h4 h5
          go_wp2_with fail
          refine hac1.mono ?_
          rintro e w' ⟨rfl, hw⟩
          subst w'
          clear hac1
          go_wp2_with fail
          refine hac3.mono ?_
          rintro e w' ⟨rfl, hw⟩
          subst w'
          clear hac3
          go_wp2_with fail
          clear HBAD HWX r0 r1 z0 z1
          obtain ⟨W8, hW8⟩ : ∃ W, W = W7.alloc (.cells #[.string p1, .string p3, .int .i64 n] 159) := ⟨_, rfl⟩
          have hb8 : Below W7.heap.size W7 W8 := by rw [hW8]; exact (Below.refl _ _).alloc (Nat.le_refl _) _
          have hps : PstsAt W8 (.slice (some ⟨W7.heap.size, 0, none⟩) 1 1) [⟨p1, p3, n⟩] := by
            refine .inr ⟨W7.heap.size, 0, 1, rfl, by rw [hW8]; simp, fun k' j hk' hj' => ?_⟩
            have hk0 : k' = 0 := by simpa using hk'
            subst hk0
            rw [hW8]
            obtain rfl | rfl | rfl : j = 0 ∨ j = 1 ∨ j = 2 := by omega
            all_goals simp [pstC]
          have hBW8 : Below W1.heap.size W1 W8 := HBW.out.trans (hb8.mono HBW.out.size)
          have htx := rtext_any [⟨p1, p3, n⟩] _ W8 hps (HG.out.below (HB1.out.trans (hBW8.mono HB1.out.size))) (by simp) (by
            intro p hp
            rw [List.mem_singleton] at hp
            subst hp
            exact ⟨HNB.out, by show p1.size ≤ 1000; omega, by show p3.size ≤ 1000; omega⟩)
          have hpl : printL [⟨p1, p3, n⟩] = pline ⟨p1, p3, n⟩ := by simp [printL]
          rw [hpl] at htx
          obtain ⟨tx, htxe⟩ : ∃ x : ByteArray, x = ⟨(pline ⟨p1, p3, n⟩).toArray⟩ := ⟨_, rfl⟩
          rw [← htxe] at htx
          rw [← hW8]
          have HTX : Hid (tx.data.toList = pline ⟨p1, p3, n⟩) := by rw [htxe]; rfl
          clear htxe hpl hps
          refine htx.mono ?_
          rintro e W9 ⟨rfl, hb9⟩
          clear htx
          have HBW9 : Hid (Below W1.heap.size W1 W9) := hBW8.trans (hb9.mono hBW8.size)
          have HB9 : Hid (Below wr.heap.size wr W9) := (HB7.out.trans (hb8.mono HB7.out.size)).trans (hb9.mono (Nat.le_trans HB7.out.size hb8.size))
          have d0' := below_cellL hb9 (below_cellL hb8 d0)
          have d1' := below_cellL hb9 (below_cellL hb8 d1)
          have d2' := below_cellL hb9 (below_cellL hb8 d2)
          clear d0 d1 d2 hb8 hb9 hBW8 hW8
          by_cases h6 : pline ⟨p1, p3, n⟩ = t.data.toList ++ [10]
          rotate_left
          · have h6' : (tx.toList == (t ++ ⟨#[10]⟩).toList) = false := by
              apply Bool.eq_false_iff.2
              intro e
              have e2 := eq_of_beq e
              rw [ByteArray.toList_eq, ByteArray.toList_eq, HTX.out, ba_append] at e2
              exact h6 e2
            obtain ⟨WX, hWX⟩ : ∃ W, W = (W9.setCell ⟨w.heap.size, 0, none⟩ (.int .i64 3)).setCell ⟨w.heap.size, 1, none⟩ (.int .i64 k) := ⟨_, rfl⟩
            have HX := hidP (HBADG.out W9 HBW9.out (fun h => h6 (HOKT.out.1 h).2.2.2.2.2) WX hWX)
            have HWX := hidP hWX
            clear hWX h6
            have r0 := below_cellL HBW9.out HRES.out.1
            have r1 := below_cellL HBW9.out HRES.out.2.1
            have z0 : W9.frozen? ⟨w.heap.size, 0, none⟩ = false := (HBW9.out.frozen (p := ⟨w.heap.size, 0, none⟩) (by show w.heap.size < W1.heap.size; omega)).trans HRES.out.2.2.1
            have z1 : W9.frozen? ⟨w.heap.size, 1, none⟩ = false := (HBW9.out.frozen (p := ⟨w.heap.size, 1, none⟩) (by show w.heap.size < W1.heap.size; omega)).trans HRES.out.2.2.2
            go_wp2
            rw [← HWX.out]
            have e0 := HX.out.2.1
            have e1 := HX.out.2.2
            exact bodyPost_ret (v := .tuple #[.slice none 0 0, .agg #[.int .i64 3, .int .i64 k]]) (by simp [results, Tryz.results30, go_sem, e0, e1]) rfl HX.out.1
          · have h6' : (tx.toList == (t ++ ⟨#[10]⟩).toList) = true := by
              rw [ByteArray.toList_eq, ByteArray.toList_eq, HTX.out, ba_append, h6]
              simp
            have HOKK : Hid (okL t) := HOKT.out.2 ⟨HEX.out, by omega, H345.out.1, H345.out.2.1, H345.out.2.2, h6⟩
            clear h6 HBADG
            obtain ⟨qs, hqs⟩ : ∃ q, q = Ls.take k := ⟨_, rfl⟩
            have hql : qs.length ≤ 602 := by rw [hqs, List.length_take]; omega
            rw [← hqs] at HO HTK HOK
            clear hqs
            have HO9 : Hid (W9.ownsRow W1.heap.size 159 3 u4 qs.length ((qs.map pOf).flatMap pstC)) := own_below HO.out HB9.out (Nat.le_refl _)
            obtain ⟨ad, nn, cp, hv⟩ := own_lenL HO9.out
            subst hv
            have hsz := HBW9.out.size
            go_wp2_with (first
              | (at_builtin; refine wpList_append_new _ rfl _ _ 78 rfl W1.heap.size 159 i1 pstZ 3 40 Tryz.underlying78 hj hy0 hy1 hy2 rfl (by decide) (.slice ad nn cp) _ _ rfl (HO9.out.alloc _) ⟨W9.heap.size, 0, none⟩ 1 1 (pstC ⟨p1, p3, n⟩) rfl rfl ?d1 ?d2 ?d3 ?d4 ?d5 (by omega) ?_)
              | go_in)
            case d1 => first | (simpa using rpst_new W9 ⟨p1, p3, n⟩) | (intro j u h; simpa [pstC] using h)
            case d2 => exact pstC_one _
            case d3 => unfold maxLen; omega
            case d4 => omega
            case d5 => first | omega | (simp; omega)
            intro v' w2 hown2 hg2 hf2
            obtain ⟨ad2, nn2, cp2, hv2⟩ := own_lenL hown2
            subst hv2
            have HB2 : Hid (Below W1.heap.size W1 w2) := by
              have b1 : Below W1.heap.size W1 (W9.alloc (.cells #[.string p1, .string p3, .int .i64 n] 159)) := HBW9.out.alloc hsz _
              exact b1.grown hg2 b1.size (fun j hj => (HO9.out.lt j hj).1)
            have HO2 : Hid (w2.ownsRow W1.heap.size 159 3 (.slice ad2 nn2 cp2) (Ls.take (k + 1)).length (((Ls.take (k + 1)).map pOf).flatMap pstC)) := by
              show w2.ownsRow _ _ _ _ _ _
              rw [HTK.out, List.length_append, List.map_append, List.flatMap_append, List.map_singleton, HPO.out]
              rw [← hws] at hown2
              simpa using hown2
            clear hown2 hg2 hf2
            go_wp2
            go_roundw
            case rel =>
              refine ⟨k + 1, by omega, by go_num, ?_, HO2, HB2⟩
              intro x hx
              rw [HTK.out] at hx
              rcases List.mem_append.1 hx with h | h
              · exact HOK.out x h
              · rw [List.mem_singleton] at h; subst h; exact HOKK.out
            case measure => simp [intOf]; omega
      · obtain rfl : k = Ls.length := by omega
        rw [List.take_length] at HOK HO
        obtain ⟨ad, nn, cp, hv⟩ := own_lenL HO.out
        subst hv
        have HBW : Hid (Below W1.heap.size W1 wr) := HB
        have r0 := below_cellL HB.out HRES.out.1
        have r1 := below_cellL HB.out HRES.out.2.1
        have z0 : wr.frozen? ⟨w.heap.size, 0, none⟩ = false := (HB.out.frozen (p := ⟨w.heap.size, 0, none⟩) (by show w.heap.size < W1.heap.size; omega)).trans HRES.out.2.2.1
        have z1 : wr.frozen? ⟨w.heap.size, 1, none⟩ = false := (HB.out.frozen (p := ⟨w.heap.size, 1, none⟩) (by show w.heap.size < W1.heap.size; omega)).trans HRES.out.2.2.2
        have f0 := (HF.out.below HBw.out).1
        have f1 := (HF.out.below HBw.out).2
        clear hi hz0 hz1 hz2 hj hy0 hy1 hy2
        have hsp : 0 < s.size := by
          rcases Nat.eq_zero_or_pos s.size with h | h
          · exact absurd (List.eq_nil_of_length_eq_zero (by rw [← size_ba]; exact h)) HNE.out
          · exact h
        have hsi : (1 : Int) ≤ (s.size : Int) ∧ (s.size : Int) - 1 < (s.size : Int) := by omega
        have hsn : s.size - 1 < s.size := by omega
        have HLB := hidP (last_byte s hsn)
        by_cases hx : s[s.size - 1] = 10
        · have hxb : (((s[s.size - 1]).toNat : Int) != 10) = false := byte_ten.2 hx
          have HLS := hidP (good_par HPI.out (by have h := lines_yes (HLB.out.trans (by rw [hx])); rw [← HUL.out] at h; exact h) HOK.out)
          clear hx
          go_wp2_with fail
          refine wp_region_turn [(.pure, 0), (.read, 1), (.pure, 2), (.turn, 3)] (by kernel_rfl) (by kernel_rfl) ?_
          have hU := up_ne
          have hA := anyW_ne
          obtain ⟨W7, hW7⟩ : ∃ W, W = wr.drew := ⟨_, rfl⟩
          rw [← hW7]
          have hb7 : Below wr.heap.size wr W7 := by rw [hW7]; exact below_drew _
          have y0 := fun n : Up W7 => n.cell (below_cellL hb7 f0)
          have y1 := fun n : Up W7 => n.cell (below_cellL hb7 f1)
          have r0' := below_cellL hb7 r0
          have r1' := below_cellL hb7 r1
          have z0' : W7.frozen? ⟨w.heap.size, 0, none⟩ = false := (hb7.frozen (p := ⟨w.heap.size, 0, none⟩) (World.block_lt_of_cell? _ _ r0)).trans z0
          have z1' : W7.frozen? ⟨w.heap.size, 1, none⟩ = false := (hb7.frozen (p := ⟨w.heap.size, 1, none⟩) (World.block_lt_of_cell? _ _ r1)).trans z1
          have HO7 : Hid (W7.ownsRow W1.heap.size 159 3 (.slice ad nn cp) Ls.length ((Ls.map pOf).flatMap pstC)) := own_below HO.out hb7 (Nat.le_refl _)
          have HB7 : Hid (Below w.heap.size w W7) := HBw.out.trans (hb7.mono HBw.out.size)
          clear r0 r1 z0 z1 f0 f1 hb7 hW7
          repeat (first | refine turn_p rfl ?_ | refine turn_q rfl ?_); go_big_quiet_step (fail); refine wpQuiet_nil ?_
          refine turn_t rfl ?_
          go_wp2_with fail
          refine ⟨rfl, ?_⟩
          refine turn_nil ?_
          obtain ⟨WX, hWX⟩ : ∃ W, W = (W7.setCell ⟨w.heap.size, 0, none⟩ (.int .i64 0)).setCell ⟨w.heap.size, 1, none⟩ (.int .i64 (-1)) := ⟨_, rfl⟩
          have e0 : WX.cell? ⟨w.heap.size, 0, none⟩ = some (.int .i64 0) := by rw [hWX]; exact (setP_other (by simp)).trans (setP_same r0')
          have e1 : WX.cell? ⟨w.heap.size, 1, none⟩ = some (.int .i64 (-1)) := by rw [hWX]; exact setP_same ((setP_other (by simp)).trans r1')
          have HFIN : Hid (RPar s w (.returned (.tuple #[.slice ad nn cp, .agg #[.int .i64 0, .int .i64 (-1)]])) WX) := by
            refine .inl ⟨Ls.map pOf, .slice ad nn cp, vps_ok HOK.out, HLS.out, rfl, ?_, ?_⟩
            · rw [hWX, List.length_map]
              refine own_below (ownsRow_setCell_other (ownsRow_setCell_other HO7.out ?_ _) ?_ _) (Below.refl _ _) HB1.out.size
              · exact fun e => by have h1 : W1.heap.size ≤ w.heap.size := (HO7.out.lt _ e).1; omega
              · exact fun e => by have h1 : W1.heap.size ≤ w.heap.size := (HO7.out.lt _ e).1; omega
            · rw [hWX]
              exact (HB7.out.setCell (p := ⟨w.heap.size, 0, none⟩) (Nat.le_refl _) _).setCell (p := ⟨w.heap.size, 1, none⟩) (Nat.le_refl _) _
          have HE := hidP (And.intro e0 e1)
          have HWX := hidP hWX
          clear e0 e1 hWX r0' r1' z0' z1' y0 y1 hU hA
          go_wp2
          rw [← HWX.out]
          have e0 := HE.out.1
          have e1 := HE.out.2
          exact bodyPost_ret (v := .tuple #[.slice ad nn cp, .agg #[.int .i64 0, .int .i64 (-1)]]) (by simp [results, Tryz.results30, go_sem, e0, e1]) rfl HFIN.out
        · have hxb : (((s[s.size - 1]).toNat : Int) != 10) = true := by
            rcases h : (((s[s.size - 1]).toNat : Int) != 10) with _ | _
            · exact absurd (byte_ten.1 h) hx
            · rfl
          obtain ⟨ps, bad, rest, g1, g2, g3, g4⟩ := end_par HPI.out (by have h := lines_not HNE.out (fun e => hx (by rw [HLB.out] at e; injection e)); rw [← HUL.out] at h; exact h) HOK.out
          obtain ⟨WX, hWX⟩ : ∃ W, W = (wr.setCell ⟨w.heap.size, 0, none⟩ (.int .i64 3)).setCell ⟨w.heap.size, 1, none⟩ (.int .i64 ((Ls.length : Int) - 1)) := ⟨_, rfl⟩
          have e0 : WX.cell? ⟨w.heap.size, 0, none⟩ = some (.int .i64 3) := by rw [hWX]; exact (setP_other (by simp)).trans (setP_same r0)
          have e1 : WX.cell? ⟨w.heap.size, 1, none⟩ = some (.int .i64 ((Ls.length : Int) - 1)) := by rw [hWX]; exact setP_same ((setP_other (by simp)).trans r1)
          have HFIN : Hid (RPar s w (.returned (.tuple #[.slice none 0 0, .agg #[.int .i64 3, .int .i64 ((Ls.length : Int) - 1)]])) WX) := by
            refine .inr ⟨ps, bad, rest, g1, g2, g3, ?_, ?_⟩
            · rw [show ((Ls.length : Int) - 1) = (ps.length : Int) by omega]
            · rw [hWX]
              exact (HBw.out.setCell (p := ⟨w.heap.size, 0, none⟩) (Nat.le_refl _) _).setCell (p := ⟨w.heap.size, 1, none⟩) (Nat.le_refl _) _
          have HE := hidP (And.intro e0 e1)
          have HWX := hidP hWX
          clear e0 e1 hWX g1 g2 g3 g4 hx
          go_wp2
          rw [← HWX.out]
          have e0 := HE.out.1
          have e1 := HE.out.2
          exact bodyPost_ret (v := .tuple #[.slice none 0 0, .agg #[.int .i64 3, .int .i64 ((Ls.length : Int) - 1)]]) (by simp [results, Tryz.results30, go_sem, e0, e1]) rfl HFIN.out
end Go.Proofs.YtcfgacdcgljbaaaGreatDoor
