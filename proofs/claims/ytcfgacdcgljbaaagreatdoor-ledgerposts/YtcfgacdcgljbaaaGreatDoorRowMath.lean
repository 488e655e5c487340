/- A slice that owns its row, of elements of several cells, sorted: the bridge to the sort's own words. The order of events, and the one stable row of them. -/
import Derived.Test.YtcfgacdcgljbaaaGreatDoorBookBase
import Derived.Test.YtcfgacdcgljbaaaGreatDoorEventCmpGrow
namespace Go.Proofs.YtcfgacdcgljbaaaGreatDoor
open Go.RowKit
open Go.Sort hiding Below
open Go.Shelf Go.Lib
theorem getElem!_of {α : Type} [Inhabited α] {l : List α} {k : Nat} {x : α} (h : l[k]? = some x) : l[k]! = x := by
  obtain ⟨hk, he⟩ := List.getElem?_eq_some_iff.1 h
  rw [getElem!_pos l k hk, he]
theorem flatK_is {α : Type} [Inhabited α] (f : α → List Value) (m : Nat) (hf : ∀ x, (f x).length = m) (l : List α) : flatK f m l.toArray = (l.flatMap f).toArray := by
  refine ext_get! (by simp [flat_len f m hf]) fun t ht => ?_
  have ht' : t < l.length * m := by simpa using ht
  have m0 : 0 < m := by
    rcases Nat.eq_zero_or_pos m with h | h
    · subst h; simp at ht'
    · exact h
  have hk : t / m < l.length := Nat.div_lt_of_lt_mul (by rw [Nat.mul_comm]; exact ht')
  have hj : t % m < m := Nat.mod_lt _ m0
  rw [get_flatK _ _ _ _ (by simpa using ht')]
  have e : t = t / m * m + t % m := by rw [Nat.mul_comm]; exact (Nat.div_add_mod t m).symm
  have hg := flat_get f m hf l (t / m) (t % m) hk hj
  rw [← e] at hg
  have hx : (f l[t / m])[t % m]? = some (f l[t / m])[t % m]! := by
    rw [List.getElem?_eq_getElem (by rw [hf]; exact hj), getElem!_pos _ _ (by rw [hf]; exact hj)]
  rw [hx] at hg
  have h1 : (l.flatMap f).toArray[t]! = (l.flatMap f)[t]! := by
    rw [getElem!_pos _ _ (by simpa [flat_len f m hf] using ht'), getElem!_pos _ _ (by simpa [flat_len f m hf] using ht')]; rfl
  rw [h1, getElem!_of hg]
  congr 1
  have h2 : l.toArray[t / m]! = l[t / m] := by rw [getElem!_pos _ _ (by simpa using hk)]; rfl
  rw [h2]
theorem own_flat {w : World} {B : Nat} {T : TypeId} {m g n cap : Nat} {xs : List Value} (h : w.ownsRow B T m (.slice (some ⟨g, 0, none⟩) n cap) n xs) (j : Nat) (hj : j < xs.length) :
    w.cell? ⟨g, j, none⟩ = some xs[j] ∧ w.frozen? ⟨g, j, none⟩ = false := by
  rcases h.2 with ⟨hv, _⟩ | ⟨g', cap', cur, hv, _, hg, hn, _, hs, ht⟩
  · cases hv
  · cases hv
    have hc : cur[j]? = xs[j]? := by rw [← ht, List.getElem?_take_of_lt (by rw [← h.1]; exact hj), Array.getElem?_toList]
    refine ⟨?_, by simp [World.frozen?, hg]⟩
    simp only [World.cell?, hg]
    rw [show (Option.isSome (none : Option _)) = false from rfl]
    simp only [Bool.false_eq_true, if_false]
    rw [hc, List.getElem?_eq_getElem hj]
theorem holdsK_of_own {α : Type} [Inhabited α] {w : World} {B : Nat} {T : TypeId} {m g n cap : Nat} {f : α → List Value} {l : List α} (hf : ∀ x, (f x).length = m) (h : w.ownsRow B T m (.slice (some ⟨g, 0, none⟩) n cap) n (l.flatMap f)) :
    HoldsK f m w g 0 l.toArray := by
  unfold HoldsK
  rw [flatK_is f m hf]
  intro j hj
  have hj' : j < (l.flatMap f).length := by simpa using hj
  rw [Nat.zero_add]
  obtain ⟨h1, h2⟩ := own_flat h j hj'
  refine ⟨?_, h2⟩
  rw [h1, getElem!_pos (l.flatMap f).toArray j hj]
  rfl
theorem own_sorted {α : Type} [Inhabited α] {w : World} {B : Nat} {T : TypeId} {m g n cap q : Nat} {os : Array Obj} {f : α → List Value} {l l' : List α} (hf : ∀ x, (f x).length = m) (h : w.ownsRow B T m (.slice (some ⟨g, 0, none⟩) n cap) n (l.flatMap f)) (hl : l'.length = l.length) :
    (sortWorldK f m w g 0 q l'.toArray os).ownsRow B T m (.slice (some ⟨g, 0, none⟩) n cap) n (l'.flatMap f) := by
  have hlen : (l'.flatMap f).length = (l.flatMap f).length := by rw [flat_len f m hf, flat_len f m hf, hl]
  refine ⟨by rw [hlen]; exact h.1, ?_⟩
  rcases h.2 with ⟨hv, _⟩ | ⟨g', cap', cur, hv, hB, hg, hn, hm, hs, ht⟩
  · cases hv
  · cases hv
    have hgl : g < w.heap.size := (Array.getElem?_eq_some_iff.1 hg).1
    refine Or.inr ⟨g, cap, putCells id 0 (l'.flatMap f).toArray cur, rfl, hB, ?_, hn, hm, by simpa [putCells] using hs, ?_⟩
    · unfold sortWorldK putRowK
      rw [flatK_is f m hf, heap_grow_old _ _ (by simpa using hgl)]
      simp [putRow, mapBlock, Sort.ahead, Array.getElem?_modify, hg, onCells]
    · apply List.ext_getElem?
      intro j
      have hnm : n * m = (l'.flatMap f).length := by rw [hlen]; exact h.1.symm
      have hcs : n * m ≤ cur.size := by rw [hs]; exact Nat.mul_le_mul_right _ hn
      by_cases hj : j < n * m
      · rw [List.getElem?_take_of_lt hj, Array.getElem?_toList]
        have hjc : j < cur.size := by omega
        have hj3 : j < (l'.flatMap f).length := by omega
        simp only [putCells, Array.getElem?_mapIdx, Array.getElem?_eq_getElem hjc, Option.map_some]
        rw [if_pos (by simp only [List.size_toArray]; omega), Nat.sub_zero, getElem!_pos _ _ (by simpa using hj3), List.getElem?_eq_getElem hj3]
        rfl
      · rw [List.getElem?_take_eq_none (by omega), List.getElem?_eq_none (by omega)]
theorem grown_sorted {α : Type} [Inhabited α] {w : World} {m g q : Nat} {os : Array Obj} {f : α → List Value} (d : Array α) : w.grownBy (sortWorldK f m w g 0 q d os) (some g) := by
  unfold sortWorldK putRowK
  refine ⟨rfl, rfl, rfl, by simp, fun k hk hne => ?_⟩
  rw [heap_grow_old _ _ (by simpa using hk)]
  have : g ≠ k := fun e => hne (by rw [e])
  simp [putRow, mapBlock, Sort.ahead, Array.getElem?_modify, this]
theorem lt_cmp (x y : Ev) : ltOf cmpE x y = true ↔ x.day < y.day ∨ (x.day = y.day ∧ (x.kind < y.kind ∨ (x.kind = y.kind ∧ x.id < y.id))) := by
  unfold ltOf cmpE orI cmpI
  rw [decide_eq_true_iff]
  repeat' split
  all_goals omega
theorem swo_cmp : SWO (ltOf cmpE) where
  irrefl x := by
    rw [← Bool.not_eq_true, lt_cmp]; omega
  trans x y z h1 h2 := by rw [lt_cmp] at *; omega
  ntrans x y z h1 h2 := by rw [← Bool.not_eq_true, lt_cmp] at *; omega
theorem id_inj : ∀ {l : List Ev}, (l.map (·.id)).Nodup → ∀ x y, x ∈ l → y ∈ l → x.id = y.id → x = y
  | [], _, x, _, hx, _, _ => by cases hx
  | z :: l, hn, x, y, hx, hy, e => by
    rw [List.map_cons, List.nodup_cons] at hn
    rcases List.mem_cons.1 hx with e1 | h1
    · rcases List.mem_cons.1 hy with e2 | h2
      · rw [e1, e2]
      · exact absurd (show z.id ∈ l.map (·.id) from List.mem_map.2 ⟨y, h2, by rw [← e, e1]⟩) hn.1
    · rcases List.mem_cons.1 hy with e2 | h2
      · exact absurd (show z.id ∈ l.map (·.id) from List.mem_map.2 ⟨x, h1, by rw [e, e2]⟩) hn.1
      · exact id_inj hn.2 x y h1 h2 e
/-- Of events with numbers of their own there is one list that is sorted. -/
theorem sorted_one {l l' : List Ev} (hp : l.Perm l') (hs : l.Pairwise fun x y => ltOf cmpE y x = false) (hs' : l'.Pairwise fun x y => ltOf cmpE y x = false) (hn : (l.map (·.id)).Nodup) : l = l' := by
  have key : ∀ x y, x ∈ l → y ∈ l → ltOf cmpE y x = false → ltOf cmpE x y = false → x = y := by
    intro x y hx hy h1 h2
    have e : x.id = y.id := by
      have a1 : ¬ ltOf cmpE y x = true := by rw [h1]; exact Bool.false_ne_true
      have a2 : ¬ ltOf cmpE x y = true := by rw [h2]; exact Bool.false_ne_true
      rw [lt_cmp] at a1 a2
      omega
    exact id_inj hn x y hx hy e
  exact List.Perm.eq_of_pairwise (le := fun x y => ltOf cmpE y x = false) (fun x y hx hy h1 h2 => key x y hx (hp.mem_iff.2 hy) h1 h2) hs hs' hp
/-- What tallymanref.ordered's own closure says. -/
def ltA (x y : Ev) : Bool := ltOf cmpE x y
/-- An event with the place at which it stood. -/
abbrev EvN : Type := Ev × Nat
def ltP (p r : EvN) : Bool := ltA p.1 r.1 || (!ltA r.1 p.1 && decide (p.2 < r.2))
theorem ltP_iff (p r : EvN) : ltP p r = true ↔ p.1.day < r.1.day ∨ (p.1.day = r.1.day ∧ (p.1.kind < r.1.kind ∨ (p.1.kind = r.1.kind ∧ (p.1.id < r.1.id ∨ (p.1.id = r.1.id ∧ p.2 < r.2))))) := by
  have h1 := lt_cmp p.1 r.1
  have h2 := lt_cmp r.1 p.1
  unfold ltP ltA
  simp only [Bool.or_eq_true, Bool.and_eq_true, Bool.not_eq_true', decide_eq_true_eq]
  rw [← Bool.not_eq_true, h1, h2]
  omega
theorem swo_P : SWO ltP where
  irrefl x := by rw [← Bool.not_eq_true, ltP_iff]; omega
  trans x y z h1 h2 := by rw [ltP_iff] at *; omega
  ntrans x y z h1 h2 := by rw [← Bool.not_eq_true, ltP_iff] at *; omega
/-- The stable row. -/
def stl (l : List Ev) : List Ev := (insertionSort ltP l.zipIdx.toArray 0 l.length).toList.map (·.1)
theorem permP {d d' : Array EvN} (h : PermIn 0 d.size d d') : d'.toList.Perm d.toList := by
  have h2 := h.2.2
  have hs := h.1
  rw [Array.toList_extract, Array.toList_extract] at h2
  simp only [List.extract_eq_take_drop] at h2
  simpa [List.take_of_length_le (show d'.toList.length ≤ d.size by simp [hs]), List.take_of_length_le (show d.toList.length ≤ d.size by simp)] using h2
theorem sortP {d : Array EvN} (h : SortedIn ltP 0 d.size d) : d.toList.Pairwise fun x y => ltP y x = false := by
  rw [List.pairwise_iff_getElem]
  intro i j hi hj hij
  have hi' : i < d.size := by simpa using hi
  have hj' : j < d.size := by simpa using hj
  have h2 := h i j (Nat.zero_le _) hij hj'
  rw [getElem!_pos d i hi', getElem!_pos d j hj'] at h2
  simp only [Array.getElem_toList]
  exact h2
theorem zip_inj {l : List Ev} {p r : EvN} (hp : p ∈ l.zipIdx) (hr : r ∈ l.zipIdx) (e : p.2 = r.2) : p = r := by
  have h1 := List.mem_zipIdx_iff_getElem?.1 hp
  have h2 := List.mem_zipIdx_iff_getElem?.1 hr
  rw [e, h2] at h1
  exact Prod.ext (Option.some.inj h1).symm e
/-- Whatever is sorted so, of all of them, is that row. -/
theorem stl_of {l : List Ev} {ps : List EvN} (hp : ps.Perm l.zipIdx) (hs : ps.Pairwise fun x y => ltP y x = false) : ps.map (·.1) = stl l := by
  have hi := insertionSort_holds (lt := ltP) swo_P l.zipIdx.toArray 0 l.length (Nat.zero_le _) (by simp)
  have hsz : l.zipIdx.toArray.size = l.length := by simp
  have h1 : (insertionSort ltP l.zipIdx.toArray 0 l.length).toList.Perm l.zipIdx := by
    have := permP (d := l.zipIdx.toArray) (by rw [hsz]; exact hi.1)
    simpa using this
  have h2 : (insertionSort ltP l.zipIdx.toArray 0 l.length).toList.Pairwise fun x y => ltP y x = false := sortP (by
    have e : (insertionSort ltP l.zipIdx.toArray 0 l.length).size = l.length := by rw [hi.1.1]; exact hsz
    rw [e]; exact hi.2)
  unfold stl
  congr 1
  refine List.Perm.eq_of_pairwise (le := fun x y => ltP y x = false) (fun x y hx hy a1 a2 => ?_) hs h2 (hp.trans h1.symm)
  refine zip_inj (hp.mem_iff.1 hx) (h1.mem_iff.1 hy) ?_
  rw [← Bool.not_eq_true, ltP_iff] at a1 a2
  omega
theorem map_get (d : Array EvN) (i : Nat) : (d.map (·.1))[i]! = d[i]!.1 := by
  by_cases h : i < d.size
  · rw [getElem!_pos _ _ (by simpa using h), getElem!_pos d i h]; simp
  · rw [getElem!_neg _ _ (by simpa using h), getElem!_neg d i h]; rfl
theorem map_swp (d : Array EvN) (i j : Nat) : (swp d i j).map (·.1) = swp (d.map (·.1)) i j := by
  unfold swp
  simp only [map_get]
  simp
theorem less_P {p r : EvN} (h : r.2 < p.2) : ltP p r = ltA p.1 r.1 := by
  unfold ltP
  rw [show decide (p.2 < r.2) = false by simp; omega]
  simp
theorem stl_len (l : List Ev) : (stl l).length = l.length := by
  have hi := insertionSort_holds (lt := ltP) swo_P l.zipIdx.toArray 0 l.length (Nat.zero_le _) (by simp)
  unfold stl
  rw [List.length_map, Array.length_toList, hi.1.1]
  simp
theorem stl_perm (l : List Ev) : (stl l).Perm l := by
  have hi := insertionSort_holds (lt := ltP) swo_P l.zipIdx.toArray 0 l.length (Nat.zero_le _) (by simp)
  have hsz : l.zipIdx.toArray.size = l.length := by simp
  have h1 := permP (d := l.zipIdx.toArray) (by rw [hsz]; exact hi.1)
  have h2 := h1.map (·.1)
  unfold stl
  simpa using h2
end Go.Proofs.YtcfgacdcgljbaaaGreatDoor
