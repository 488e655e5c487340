/- What the statements on costs use of the order and of events that are numbered. No walk. -/
import Derived.Test.YtmldaiofghpfdaaKpNum
import Derived.Test.YtmldaiofghpfdaaCoRun
namespace Go.Proofs.Ytmldaiofghpfdaa
open Go.RowKit
open Go.Sort hiding Below
theorem wf_int {i : Int} (h0 : -9223372036854775808 ≤ i) (h1 : i ≤ 9223372036854775807) : (Lit.int .i64 i).wf = true := by
  simp [Lit.wf, IntKind.min, IntKind.max, IntKind.signed, IntKind.bits]; omega
theorem stl_pairs (l : List Ev) : ∃ ps : List EvN, ps.Perm l.zipIdx ∧ (ps.Pairwise fun x y => ltP y x = false) ∧ ps.map (·.1) = stl l := by
  have hi := insertionSort_holds (lt := ltP) swo_P l.zipIdx.toArray 0 l.length (Nat.zero_le _) (by simp)
  have hsz : l.zipIdx.toArray.size = l.length := by simp
  refine ⟨(insertionSort ltP l.zipIdx.toArray 0 l.length).toList, ?_, ?_, rfl⟩
  · have := permP (d := l.zipIdx.toArray) (by rw [hsz]; exact hi.1)
    simpa using this
  · exact sortP (by
      have e : (insertionSort ltP l.zipIdx.toArray 0 l.length).size = l.length := by rw [hi.1.1]; exact hsz
      rw [e]; exact hi.2)
/-- The last of all stands last. -/
theorem stl_last (l : List Ev) (e : Ev) (h : ∀ y ∈ l, y.day < e.day) : stl (l ++ [e]) = stl l ++ [e] := by
  obtain ⟨ps, h1, h2, h3⟩ := stl_pairs l
  have e1 := stl_of (l := l ++ [e]) (ps := ps ++ [(e, l.length)]) (by
    rw [List.zipIdx_append]
    simpa using h1.append_right [(e, l.length)]) (by
    rw [List.pairwise_append]
    refine ⟨h2, List.pairwise_singleton .., fun x hx y hy => ?_⟩
    rw [List.mem_singleton] at hy
    subst hy
    have hx2 := h1.mem_iff.1 hx
    have hx3 : x.1 ∈ l := by
      have := List.mem_zipIdx_iff_getElem?.1 hx2
      exact List.mem_of_getElem? this
    have := h x.1 hx3
    rw [← Bool.not_eq_true, ltP_iff]
    simp only
    omega)
  rw [← e1, List.map_append, h3]
  rfl
theorem filter_rt {l : List Ev} (h : ∀ e ∈ l, Rt e) : l.filter rtB = l := by
  rw [List.filter_eq_self]
  exact fun e he => (rtB_iff e).2 (h e he)
theorem ordd_last {l : List Ev} {e : Ev} (h : ∀ y ∈ l, Rt y) (he : Rt e) (hd : ∀ y ∈ l, y.day < e.day) : ordd (l ++ [e]) = ordd l ++ [e] := by
  unfold ordd
  rw [filter_rt h, filter_rt (fun y hy => by
    rcases List.mem_append.1 hy with a | a
    · exact h y a
    · rw [List.mem_singleton] at a; rw [a]; exact he), stl_last l e hd]
theorem numb_mem {l : List Ev} {y : Ev} (h : y ∈ numb l) : ∃ (i : Nat) (x : Ev), x ∈ l ∧ Rt x ∧ y = { x with id := (i : Int) + 1 } ∧ i < (numb l).length := by
  unfold numb at h ⊢
  rw [List.mem_mapIdx] at h
  obtain ⟨i, hi, he⟩ := h
  have hm := List.getElem_mem hi
  rw [List.mem_filter] at hm
  exact ⟨i, _, hm.1, (rtB_iff _).1 hm.2, he.symm, by rw [List.length_mapIdx]; exact hi⟩
theorem numb_rt {l : List Ev} : ∀ y ∈ numb l, Rt y := fun y hy => by
  obtain ⟨i, x, _, hr, rfl, _⟩ := numb_mem hy
  exact hr
theorem numb_w {l : List Ev} (hw : ∀ e ∈ l, EvW e) (hl : l.length ≤ 1000) : ∀ y ∈ numb l, EvW y := fun y hy => by
  obtain ⟨i, x, hx, _, rfl, hi⟩ := numb_mem hy
  have := numb_len l
  have h := hw x hx
  exact ⟨wf_int (by simp only; omega) (by simp only; omega), h.item, h.kind, h.qty, h.price, h.ofI, h.day⟩
theorem numb_ordd (l : List Ev) : ordd (numb l) = stl (numb l) := by unfold ordd; rw [filter_rt numb_rt]
theorem ordd_numb_len (l : List Ev) : (ordd (numb l)).length = (numb l).length := by rw [numb_ordd, stl_len]
/-- Who takes all takes all. -/
theorem do_out {s : Stk} {i q d : Int} {x : ByteArray} (ok : ∀ y ∈ s.ys, LayOK y) (hq : q = sumQ s.ys) : doE s ⟨i, x, 3, q, 0, 0, d⟩ = (⟨[], s.price⟩, ⟨i, sumV s.ys, 0, 0, false⟩) := by
  have hn := sum_nonneg ok
  have t := tk_took s.ys q ok (by omega)
  have g := t.gone (by omega)
  have f := t.few (by omega)
  have v := t.val
  rw [g] at v
  simp only [sumV] at v
  unfold doE
  rw [if_neg (by simp), if_neg (by simp), if_pos rfl]
  simp only [g, f.2]
  rw [show (tk s.ys q).2.1 = sumV s.ys by omega]
theorem do_none {s : Stk} {i d : Int} {x : ByteArray} (ok : ∀ y ∈ s.ys, LayOK y) : doE s ⟨i, x, 4, 0, 0, 0, d⟩ = (⟨[], s.price⟩, ⟨i, sumV s.ys, 0, 0, false⟩) := by
  have hn := sum_nonneg ok
  have t := tk_took s.ys (sumQ s.ys) ok hn.1
  have g := t.gone (Int.le_refl _)
  have v := t.val
  rw [g] at v
  simp only [sumV] at v
  unfold doE
  rw [if_neg (by simp), if_neg (by simp), if_neg (by simp), if_neg (by simp only; omega)]
  simp only [Int.sub_zero, g]
  rw [show (tk s.ys (sumQ s.ys)).2.1 = sumV s.ys by omega]
theorem do_same {s : Stk} {i q d : Int} {x : ByteArray} (hq : q = sumQ s.ys) : doE s ⟨i, x, 4, q, 0, 0, d⟩ = (s, ⟨i, 0, 0, 0, false⟩) := by
  unfold doE
  rw [if_neg (by simp), if_neg (by simp), if_neg (by simp), if_neg (by simp only; omega)]
  simp only [hq, Int.sub_self]
  rw [tk_done _ _ (Or.inl (Int.le_refl _))]
end Go.Proofs.Ytmldaiofghpfdaa
