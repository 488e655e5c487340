/- A slice that owns its row, of elements of several cells, sorted: the bridge to the sort's own words. And what slices.SortFunc makes of events. -/
import Derived.Test.YtcfgacdcgljbaaaGreatBnD
import Derived.Test.YtcfgacdcgljbaaaGreatBnI
import Derived.Test.YtcfgacdcgljbaaaGreatShelf
import Derived.Shelf.SlSortCmp.NoneTotal
namespace Go.Proofs.YtcfgacdcgljbaaaGreat
open Go.RowKit Go.Sort
/-- What the sort makes of events. -/
def srt (l : List Ev) : List Ev := (pdq (ltOf cmpE) l.toArray 0 l.toArray.size (Lib.bitLen l.toArray.size) true true).toList
theorem srt_spec (l : List Ev) : PermIn 0 l.length l.toArray (srt l).toArray ∧ SortedIn (ltOf cmpE) 0 l.length (srt l).toArray := by
  have h := pdq_sorts (ltOf cmpE) swo_cmp l.toArray 0 l.toArray.size (Lib.bitLen l.toArray.size) true true (Nat.zero_le _) (Nat.le_refl _) (Or.inl rfl)
  unfold srt
  simpa using h
theorem srt_len (l : List Ev) : (srt l).length = l.length := by simpa using (srt_spec l).1.1
theorem srt_perm (l : List Ev) : (srt l).Perm l := by
  have h := (srt_spec l).1.2.2
  rw [Array.toList_extract, Array.toList_extract] at h
  simp only [List.extract_eq_take_drop] at h
  simpa [List.take_of_length_le (Nat.le_of_eq (srt_len l))] using h
theorem srt_sorted (l : List Ev) : (srt l).Pairwise fun x y => ltOf cmpE y x = false := by
  rw [List.pairwise_iff_getElem]
  intro i j hi hj hij
  have h := (srt_spec l).2 i j (Nat.zero_le _) hij (by rw [← srt_len l]; exact hj)
  rw [getElem!_pos (srt l).toArray i (by simpa using hi), getElem!_pos (srt l).toArray j (by simpa using hj)] at h
  simpa using h
end Go.Proofs.YtcfgacdcgljbaaaGreat
