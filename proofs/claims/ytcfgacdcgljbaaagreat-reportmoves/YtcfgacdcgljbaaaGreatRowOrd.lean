/- The row of events, and numbered ones, in plain mathematics. No walk. -/
import Derived.Test.YtcfgacdcgljbaaaGreatBnM
namespace Go.Proofs.YtcfgacdcgljbaaaGreat
open Go.RowKit Go.Shelf
theorem stl_sorted (l : List Ev) : (stl l).Pairwise fun x y => ltOf cmpE y x = false := by
  obtain ⟨ps, _, hs, he⟩ := stl_pairs l
  rw [← he, List.pairwise_map]
  refine hs.imp fun {a b} h => ?_
  unfold ltP at h
  rw [Bool.or_eq_false_iff] at h
  exact h.1
theorem stl_nodup {l : List Ev} (hn : (l.map (·.id)).Nodup) : ((stl l).map (·.id)).Nodup := ((stl_perm l).map _).nodup_iff.2 hn
theorem stl_filter {l : List Ev} (hn : (l.map (·.id)).Nodup) (p : Ev → Bool) : stl (l.filter p) = (stl l).filter p := by
  refine sorted_one ((stl_perm _).trans ((stl_perm l).filter p).symm) (stl_sorted _) ((stl_sorted l).sublist List.filter_sublist) ?_
  exact stl_nodup (hn.sublist (List.filter_sublist.map _))
theorem stl_same {l l' : List Ev} (hp : l'.Perm l) (hn : (l.map (·.id)).Nodup) : stl l' = stl l := by
  refine sorted_one ((stl_perm _).trans (hp.trans (stl_perm l).symm)) (stl_sorted _) (stl_sorted _) ?_
  exact stl_nodup ((hp.map _).nodup_iff.2 hn)
theorem ordd_stl {l : List Ev} (h : ∀ e ∈ l, Rt e) : ordd l = stl l := by unfold ordd; rw [filter_rt h]
theorem numb_nodup (l : List Ev) : ((numb l).map (·.id)).Nodup := by
  unfold numb
  rw [List.nodup_iff_pairwise_ne, List.pairwise_iff_getElem]
  intro i j hi hj hij
  simp only [List.getElem_map, List.getElem_mapIdx]
  omega
end Go.Proofs.YtcfgacdcgljbaaaGreat
