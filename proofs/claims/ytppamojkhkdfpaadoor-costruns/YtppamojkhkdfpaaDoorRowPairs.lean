/- The stable row, with places; what is left out of it. No walk. -/
import Derived.Test.YtppamojkhkdfpaaDoorBnI
namespace Go.Proofs.YtppamojkhkdfpaaDoor
open Go.RowKit
open Go.Sort hiding Below
theorem stl_pairs (l : List Ev) : ∃ ps : List EvN, ps.Perm l.zipIdx ∧ (ps.Pairwise fun x y => ltP y x = false) ∧ ps.map (·.1) = stl l := by
  have hi := insertionSort_holds (lt := ltP) swo_P l.zipIdx.toArray 0 l.length (Nat.zero_le _) (by simp)
  have hsz : l.zipIdx.toArray.size = l.length := by simp
  refine ⟨(insertionSort ltP l.zipIdx.toArray 0 l.length).toList, ?_, ?_, rfl⟩
  · have := permP (d := l.zipIdx.toArray) (by rw [hsz]; exact hi.1)
    simpa using this
  · exact sortP (by
      have e : (insertionSort ltP l.zipIdx.toArray 0 l.length).size = l.length := by rw [hi.1.1]; exact hsz
      rw [e]; exact hi.2)
/-- How many that are wanted stand ahead of a place. -/
def rank (p : Ev → Bool) (l : List Ev) (i : Nat) : Nat := ((l.take i).filter p).length
theorem rank_mono (p : Ev → Bool) (l : List Ev) {i j : Nat} (h : i ≤ j) : rank p l i ≤ rank p l j := by
  unfold rank
  have : (l.take i).Sublist (l.take j) := (List.take_prefix_take_left h).sublist
  exact (this.filter p).length_le
theorem rank_row (p : Ev → Bool) (l : List Ev) : (l.zipIdx.filter fun x => p x.1).map (fun x => (x.1, rank p l x.2)) = (l.filter p).zipIdx := by
  rw [← List.reverse_reverse l]
  generalize l.reverse = r
  induction r with
  | nil => rfl
  | cons x r ih =>
    rw [List.reverse_cons]
    generalize r.reverse = a at ih ⊢
    rw [List.zipIdx_append, List.filter_append, List.map_append, List.filter_append, List.zipIdx_append, ← ih]
    congr 1
    · refine List.map_congr_left fun y hy => ?_
      have hm := (List.mem_filter.1 hy).1
      have hi : y.2 < a.length := by
        have := List.mem_zipIdx_iff_getElem?.1 hm
        exact (List.getElem?_eq_some_iff.1 this).1
      unfold rank
      rw [List.take_append_of_le_length (by omega)]
    · by_cases h : p x = true
      · simp [h, rank]
      · simp [h]
theorem stl_filter_all (l : List Ev) (p : Ev → Bool) : stl (l.filter p) = (stl l).filter p := by
  obtain ⟨ps, hp, hs, hm⟩ := stl_pairs l
  have e := stl_of (l := l.filter p) (ps := (ps.filter fun x => p x.1).map fun x => (x.1, rank p l x.2)) (by
    rw [← rank_row]
    exact (hp.filter _).map _) (by
    rw [List.pairwise_map]
    refine (hs.sublist List.filter_sublist).imp fun {a b} h => ?_
    rw [← Bool.not_eq_true, ltP_iff] at h ⊢
    intro c
    refine h ?_
    have hr := @rank_mono p l
    by_cases hab : b.2 < a.2
    · simp only at c ⊢
      omega
    · have := hr (i := a.2) (j := b.2) (by omega)
      simp only at c
      omega)
  rw [← e, ← hm, List.map_map, List.filter_map]
  rfl
end Go.Proofs.YtppamojkhkdfpaaDoor
