/- Events that are numbered, in plain mathematics. The stable row, with places; what is left out of it. No walk. What the statements on costs use of the order and of events that are numbered. No walk. The row of events, and numbered ones, in plain mathematics. No walk. -/
import Derived.Test.YtdkhohlhdiekmaaGreatDoorCoRun
import Derived.Test.YtdkhohlhdiekmaaGreatDoorBnI
namespace Go.Proofs.YtdkhohlhdiekmaaGreatDoor
open Go.RowKit
/-- Those that are Right, numbered from 1 on. -/
noncomputable def numb (l : List Ev) : List Ev := (l.filter rtB).mapIdx fun i e => { e with id := (i : Int) + 1 }
theorem numb_len (l : List Ev) : (numb l).length ≤ l.length := by unfold numb; rw [List.length_mapIdx]; exact List.length_filter_le ..
theorem numb_snoc (a : List Ev) (x : Ev) : numb (a ++ [x]) = if rtB x = true then numb a ++ [{ x with id := ((numb a).length : Int) + 1 }] else numb a := by
  unfold numb
  rw [List.filter_append]
  by_cases h : rtB x = true
  · rw [if_pos h, show List.filter rtB [x] = [x] by simp [h], List.mapIdx_append]
    simp
  · rw [if_neg h, show List.filter rtB [x] = [] by simp [h], List.append_nil]
theorem own_lenN {w : World} {B : Nat} {T : TypeId} {m n : Nat} {v : Value} {xs : List Value} (h : w.ownsRow B T m v n xs) : ∃ ad cap, v = .slice ad n cap := by
  rcases h.2 with ⟨rfl, rfl⟩ | ⟨g, cap, cur, rfl, _⟩
  · exact ⟨none, 0, rfl⟩
  · exact ⟨_, _, rfl⟩
end Go.Proofs.YtdkhohlhdiekmaaGreatDoor
namespace Go.Proofs.YtdkhohlhdiekmaaGreatDoor
open Go.RowKit
open Go.Sort hiding Below
theorem stl_pairs (l : List Ev) : ∃ ps : List EvN, ps.Perm l.zipIdx ∧ (ps.Pairwise fun x y => ltP y x = false) ∧ ps.map (·.1) = stl l := by
  have hi := insertionSort_holds (lt := ltP) swo_P l.zipIdx.toArray 0 l.length (Nat.zero_le _) (by simp)
  have hsz : l.zipIdx.toArray.size = l.length := by simp
  refine ⟨(insertionSort ltP l.zipIdx.toArray 0 l.length).toList, ?_, ?_, rfl⟩
  · have := permP (d := l.zipIdx.toArray) (by rw [hsz]; exact hi.1)
    simpa using this
  · exact sortP (by
      have e : (insertionSort ltP l.zipIdx.toArray 0 l.length).size = l.length := by rw [hi.1.1]; exact hsz
      rw [e]; exact hi.2)
/-- How many that are wanted stand ahead of a place. -/
def rank (p : Ev → Bool) (l : List Ev) (i : Nat) : Nat := ((l.take i).filter p).length
theorem rank_mono (p : Ev → Bool) (l : List Ev) {i j : Nat} (h : i ≤ j) : rank p l i ≤ rank p l j := by
  unfold rank
  have : (l.take i).Sublist (l.take j) := (List.take_prefix_take_left h).sublist
  exact (this.filter p).length_le
theorem rank_row (p : Ev → Bool) (l : List Ev) : (l.zipIdx.filter fun x => p x.1).map (fun x => (x.1, rank p l x.2)) = (l.filter p).zipIdx := by
  rw [← List.reverse_reverse l]
  generalize l.reverse = r
  induction r with
  | nil => rfl
  | cons x r ih =>
    rw [List.reverse_cons]
    generalize r.reverse = a at ih ⊢
    rw [List.zipIdx_append, List.filter_append, List.map_append, List.filter_append, List.zipIdx_append, ← ih]
    congr 1
    · refine List.map_congr_left fun y hy => ?_
      have hm := (List.mem_filter.1 hy).1
      have hi : y.2 < a.length := by
        have := List.mem_zipIdx_iff_getElem?.1 hm
        exact (List.getElem?_eq_some_iff.1 this).1
      unfold rank
      rw [List.take_append_of_le_length (by omega)]
    · by_cases h : p x = true
      · simp [h, rank]
      · simp [h]
theorem stl_filter_all (l : List Ev) (p : Ev → Bool) : stl (l.filter p) = (stl l).filter p := by
  obtain ⟨ps, hp, hs, hm⟩ := stl_pairs l
  have e := stl_of (l := l.filter p) (ps := (ps.filter fun x => p x.1).map fun x => (x.1, rank p l x.2)) (by
    rw [← rank_row]
    exact (hp.filter _).map _) (by
    rw [List.pairwise_map]
    refine (hs.sublist List.filter_sublist).imp fun {a b} h => ?_
    rw [← Bool.not_eq_true, ltP_iff] at h ⊢
    intro c
    refine h ?_
    have hr := @rank_mono p l
    by_cases hab : b.2 < a.2
    · simp only at c ⊢
      omega
    · have := hr (i := a.2) (j := b.2) (by omega)
      simp only at c
      omega)
  rw [← e, ← hm, List.map_map, List.filter_map]
  rfl
end Go.Proofs.YtdkhohlhdiekmaaGreatDoor
namespace Go.Proofs.YtdkhohlhdiekmaaGreatDoor
open Go.RowKit
open Go.Sort hiding Below
theorem wf_int {i : Int} (h0 : -9223372036854775808 ≤ i) (h1 : i ≤ 9223372036854775807) : (Lit.int .i64 i).wf = true := by
  simp [Lit.wf, IntKind.min, IntKind.max, IntKind.signed, IntKind.bits]; omega
/-- The last of all stands last. -/
theorem stl_last (l : List Ev) (e : Ev) (h : ∀ y ∈ l, y.day < e.day) : stl (l ++ [e]) = stl l ++ [e] := by
  obtain ⟨ps, h1, h2, h3⟩ := stl_pairs l
  have e1 := stl_of (l := l ++ [e]) (ps := ps ++ [(e, l.length)]) (by
    rw [List.zipIdx_append]
    simpa using h1.append_right [(e, l.length)]) (by
    rw [List.pairwise_append]
    refine ⟨h2, List.pairwise_singleton .., fun x hx y hy => ?_⟩
    rw [List.mem_singleton] at hy
    subst hy
    have hx2 := h1.mem_iff.1 hx
    have hx3 : x.1 ∈ l := by
      have := List.mem_zipIdx_iff_getElem?.1 hx2
      exact List.mem_of_getElem? this
    have := h x.1 hx3
    rw [← Bool.not_eq_true, ltP_iff]
    simp only
    omega)
  rw [← e1, List.map_append, h3]
  rfl
theorem filter_rt {l : List Ev} (h : ∀ e ∈ l, Rt e) : l.filter rtB = l := by
  rw [List.filter_eq_self]
  exact fun e he => (rtB_iff e).2 (h e he)
theorem ordd_last {l : List Ev} {e : Ev} (h : ∀ y ∈ l, Rt y) (he : Rt e) (hd : ∀ y ∈ l, y.day < e.day) : ordd (l ++ [e]) = ordd l ++ [e] := by
  unfold ordd
  rw [filter_rt h, filter_rt (fun y hy => by
    rcases List.mem_append.1 hy with a | a
    · exact h y a
    · rw [List.mem_singleton] at a; rw [a]; exact he), stl_last l e hd]
theorem numb_mem {l : List Ev} {y : Ev} (h : y ∈ numb l) : ∃ (i : Nat) (x : Ev), x ∈ l ∧ Rt x ∧ y = { x with id := (i : Int) + 1 } ∧ i < (numb l).length := by
  unfold numb at h ⊢
  rw [List.mem_mapIdx] at h
  obtain ⟨i, hi, he⟩ := h
  have hm := List.getElem_mem hi
  rw [List.mem_filter] at hm
  exact ⟨i, _, hm.1, (rtB_iff _).1 hm.2, he.symm, by rw [List.length_mapIdx]; exact hi⟩
theorem numb_rt {l : List Ev} : ∀ y ∈ numb l, Rt y := fun y hy => by
  obtain ⟨i, x, _, hr, rfl, _⟩ := numb_mem hy
  exact hr
theorem numb_w {l : List Ev} (hw : ∀ e ∈ l, EvW e) (hl : l.length ≤ 1000) : ∀ y ∈ numb l, EvW y := fun y hy => by
  obtain ⟨i, x, hx, _, rfl, hi⟩ := numb_mem hy
  have := numb_len l
  have h := hw x hx
  exact ⟨wf_int (by simp only; omega) (by simp only; omega), h.item, h.kind, h.qty, h.price, h.ofI, h.day⟩
theorem numb_ordd (l : List Ev) : ordd (numb l) = stl (numb l) := by unfold ordd; rw [filter_rt numb_rt]
theorem ordd_numb_len (l : List Ev) : (ordd (numb l)).length = (numb l).length := by rw [numb_ordd, stl_len]
/-- Who takes all takes all. -/
theorem do_out {s : Stk} {i q d : Int} {x : ByteArray} (ok : ∀ y ∈ s.ys, LayOK y) (hq : q = sumQ s.ys) : doE s ⟨i, x, 3, q, 0, 0, d⟩ = (⟨[], s.price⟩, ⟨i, sumV s.ys, 0, 0, false⟩) := by
  have hn := sum_nonneg ok
  have t := tk_took s.ys q ok (by omega)
  have g := t.gone (by omega)
  have f := t.few (by omega)
  have v := t.val
  rw [g] at v
  simp only [sumV] at v
  unfold doE
  rw [if_neg (by simp), if_neg (by simp), if_pos rfl]
  simp only [g, f.2]
  rw [show (tk s.ys q).2.1 = sumV s.ys by omega]
theorem do_none {s : Stk} {i d : Int} {x : ByteArray} (ok : ∀ y ∈ s.ys, LayOK y) : doE s ⟨i, x, 4, 0, 0, 0, d⟩ = (⟨[], s.price⟩, ⟨i, sumV s.ys, 0, 0, false⟩) := by
  have hn := sum_nonneg ok
  have t := tk_took s.ys (sumQ s.ys) ok hn.1
  have g := t.gone (Int.le_refl _)
  have v := t.val
  rw [g] at v
  simp only [sumV] at v
  unfold doE
  rw [if_neg (by simp), if_neg (by simp), if_neg (by simp), if_neg (by simp only; omega)]
  simp only [Int.sub_zero, g]
  rw [show (tk s.ys (sumQ s.ys)).2.1 = sumV s.ys by omega]
theorem do_same {s : Stk} {i q d : Int} {x : ByteArray} (hq : q = sumQ s.ys) : doE s ⟨i, x, 4, q, 0, 0, d⟩ = (s, ⟨i, 0, 0, 0, false⟩) := by
  unfold doE
  rw [if_neg (by simp), if_neg (by simp), if_neg (by simp), if_neg (by simp only; omega)]
  simp only [hq, Int.sub_self]
  rw [tk_done _ _ (Or.inl (Int.le_refl _))]
end Go.Proofs.YtdkhohlhdiekmaaGreatDoor
namespace Go.Proofs.YtdkhohlhdiekmaaGreatDoor
open Go.RowKit Go.Shelf
theorem stl_sorted (l : List Ev) : (stl l).Pairwise fun x y => ltOf cmpE y x = false := by
  obtain ⟨ps, _, hs, he⟩ := stl_pairs l
  rw [← he, List.pairwise_map]
  refine hs.imp fun {a b} h => ?_
  unfold ltP at h
  rw [Bool.or_eq_false_iff] at h
  exact h.1
theorem stl_nodup {l : List Ev} (hn : (l.map (·.id)).Nodup) : ((stl l).map (·.id)).Nodup := ((stl_perm l).map _).nodup_iff.2 hn
theorem stl_filter {l : List Ev} (hn : (l.map (·.id)).Nodup) (p : Ev → Bool) : stl (l.filter p) = (stl l).filter p := by
  refine sorted_one ((stl_perm _).trans ((stl_perm l).filter p).symm) (stl_sorted _) ((stl_sorted l).sublist List.filter_sublist) ?_
  exact stl_nodup (hn.sublist (List.filter_sublist.map _))
theorem stl_same {l l' : List Ev} (hp : l'.Perm l) (hn : (l.map (·.id)).Nodup) : stl l' = stl l := by
  refine sorted_one ((stl_perm _).trans (hp.trans (stl_perm l).symm)) (stl_sorted _) (stl_sorted _) ?_
  exact stl_nodup ((hp.map _).nodup_iff.2 hn)
theorem ordd_stl {l : List Ev} (h : ∀ e ∈ l, Rt e) : ordd l = stl l := by unfold ordd; rw [filter_rt h]
theorem numb_nodup (l : List Ev) : ((numb l).map (·.id)).Nodup := by
  unfold numb
  rw [List.nodup_iff_pairwise_ne, List.pairwise_iff_getElem]
  intro i j hi hj hij
  simp only [List.getElem_map, List.getElem_mapIdx]
  omega
end Go.Proofs.YtdkhohlhdiekmaaGreatDoor
