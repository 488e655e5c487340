/- event.Compare turns nothing: it draws, and makes memory behind all that is there. A slice that owns its row, of elements of several cells, sorted: the bridge to the sort's own words. The order of events, and the one stable row of them. The walk of tallymanref.in. The walks of tallymanref.Name, Right and Ahead. -/
import Derived.Test.YtcfgacdcgljbaaaGreatDoorBnB
import Derived.Shelf.SlSortCmp.InsertionK
import Derived.Test.YtcfgacdcgljbaaaGreatDoorBnC
import Derived.Test.YtcfgacdcgljbaaaGreatDoorBnA
namespace Go.Proofs.YtcfgacdcgljbaaaGreatDoor
open Go.RowKit
theorem grow_three (w : World) (a b c : Obj) : ((w.alloc a).alloc b).drew.alloc c = Sort.grow (w.drewN 1) #[a, b, c] := by
  show ({ w with heap := ((w.heap.push a).push b).push c, drawn := w.drawn + 1 } : World) = { w with heap := w.heap ++ #[a, b, c], drawn := w.drawn + 1 }
  have e : ((w.heap.push a).push b).push c = w.heap ++ #[a, b, c] := by apply Array.ext'; simp
  rw [e]
set_option maxHeartbeats 4000000 in
theorem compare_grow (a b : Ev) (w : World) :
    Calls Tryz.prog 64 #[evV a, evV b] w fun e w' => e = .returned (.int .i64 (cmpE a b)) ∧ ∃ q os, w' = Sort.grow (w.drewN q) os := by
  obtain ⟨id, item, kind, qty, price, ofI, day⟩ := a
  obtain ⟨id2, item2, kind2, qty2, price2, ofI2, day2⟩ := b
  have HC : Hid (cmpE ⟨id, item, kind, qty, price, ofI, day⟩ ⟨id2, item2, kind2, qty2, price2, ofI2, day2⟩ = orI (cmpI day day2) (cmpI kind kind2) (cmpI id id2)) := rfl
  rw [HC.out]
  clear HC
  unfold evV
  simp only
  have hU := up_ne
  go_enter Tryz.func64, Tryz.ntmps64
  go_wp2_with fail
  refine wp_region_mix [(true, 0), (true, 1), (true, 2), (true, 3), (true, 5), (true, 6), (true, 7), (true, 8), (true, 10), (true, 11), (true, 12), (true, 13), (false, 4), (false, 9), (false, 14), (false, 15), (false, 16), (true, 17)] (by kernel_rfl) (by kernel_rfl) ?_
  obtain ⟨W0, hW⟩ : ∃ W, W = ((w.alloc (.cells #[.int .i64 id, .string item, .int .i64 kind, .int .i64 qty, .int .i64 price, .int .i64 ofI, .int .i64 day] 44)).alloc (.cells #[.int .i64 id2, .string item2, .int .i64 kind2, .int .i64 qty2, .int .i64 price2, .int .i64 ofI2, .int .i64 day2] 44)).drew := ⟨_, rfl⟩
  rw [← hW]
  have hE : EvAt W0 w.heap.size ⟨id, item, kind, qty, price, ofI, day⟩ := by
    rw [hW]; constructor <;> simp
  have hF : EvAt W0 (w.heap.size + 1) ⟨id2, item2, kind2, qty2, price2, ofI2, day2⟩ := by
    rw [hW]; constructor <;> simp
  have hB0 : Below w.heap.size w W0 := by rw [hW]; exact (((Below.refl _ _).alloc (Nat.le_refl _) _).alloc (by simp) _).trans ((below_drew _).mono (by simp; omega))
  have HW : Hid (W0 = _) := hW
  clear hW
  have f0 := fun n : Up W0 => (hE.up n).c0
  have f2 := fun n : Up W0 => (hE.up n).c2
  have f6 := fun n : Up W0 => (hE.up n).c6
  have g0 := fun n : Up W0 => (hF.up n).c0
  have g2 := fun n : Up W0 => (hF.up n).c2
  have g6 := fun n : Up W0 => (hF.up n).c6
  repeat (refine mix_q rfl ?_; go_big_quiet_step (fail); refine wpQuiet_nil ?_)
  refine mix_n rfl ?_
  go_wp2_with fail
  refine (cmp_any day day2 _).mono ?_
  rintro e w' ⟨rfl, hw⟩
  subst w'
  go_wp2_with fail
  refine ⟨rfl, Below.refl _ _, ?_⟩
  refine mix_n rfl ?_
  go_wp2_with fail
  refine (cmp_any kind kind2 _).mono ?_
  rintro e w' ⟨rfl, hw⟩
  subst w'
  go_wp2_with fail
  refine ⟨rfl, Below.refl _ _, ?_⟩
  refine mix_n rfl ?_
  go_wp2_with fail
  refine (cmp_any id id2 _).mono ?_
  rintro e w' ⟨rfl, hw⟩
  subst w'
  go_wp2_with fail
  refine ⟨rfl, Below.refl _ _, ?_⟩
  refine mix_n rfl ?_
  go_wp2_with fail
  refine ⟨rfl, (Below.refl _ _).alloc (Nat.le_refl _) _, ?_⟩
  refine mix_n rfl ?_
  go_wp2_with fail
  refine (or_any (cmpI day day2) (cmpI kind kind2) (cmpI id id2) W0.heap.size _ (by simp) (by simp) (by simp)).mono ?_
  rintro e w' ⟨rfl, hw⟩
  subst w'
  go_wp2_with fail
  refine ⟨rfl, Below.refl _ _, ?_⟩
  repeat (refine mix_q rfl ?_; go_big_quiet_step (fail); refine wpQuiet_nil ?_)
  refine mix_nil ?_
  go_wp2
  go_ret
  rw [HW.out]
  exact ⟨rfl, 1, _, grow_three w _ _ _⟩
end Go.Proofs.YtcfgacdcgljbaaaGreatDoor
namespace Go.Proofs.YtcfgacdcgljbaaaGreatDoor
open Go.RowKit
open Go.Sort hiding Below
open Go.Shelf Go.Lib
theorem getElem!_of {α : Type} [Inhabited α] {l : List α} {k : Nat} {x : α} (h : l[k]? = some x) : l[k]! = x := by
  obtain ⟨hk, he⟩ := List.getElem?_eq_some_iff.1 h
  rw [getElem!_pos l k hk, he]
theorem flatK_is {α : Type} [Inhabited α] (f : α → List Value) (m : Nat) (hf : ∀ x, (f x).length = m) (l : List α) : flatK f m l.toArray = (l.flatMap f).toArray := by
  refine ext_get! (by simp [flat_len f m hf]) fun t ht => ?_
  have ht' : t < l.length * m := by simpa using ht
  have m0 : 0 < m := by
    rcases Nat.eq_zero_or_pos m with h | h
    · subst h; simp at ht'
    · exact h
  have hk : t / m < l.length := Nat.div_lt_of_lt_mul (by rw [Nat.mul_comm]; exact ht')
  have hj : t % m < m := Nat.mod_lt _ m0
  rw [get_flatK _ _ _ _ (by simpa using ht')]
  have e : t = t / m * m + t % m := by rw [Nat.mul_comm]; exact (Nat.div_add_mod t m).symm
  have hg := flat_get f m hf l (t / m) (t % m) hk hj
  rw [← e] at hg
  have hx : (f l[t / m])[t % m]? = some (f l[t / m])[t % m]! := by
    rw [List.getElem?_eq_getElem (by rw [hf]; exact hj), getElem!_pos _ _ (by rw [hf]; exact hj)]
  rw [hx] at hg
  have h1 : (l.flatMap f).toArray[t]! = (l.flatMap f)[t]! := by
    rw [getElem!_pos _ _ (by simpa [flat_len f m hf] using ht'), getElem!_pos _ _ (by simpa [flat_len f m hf] using ht')]; rfl
  rw [h1, getElem!_of hg]
  congr 1
  have h2 : l.toArray[t / m]! = l[t / m] := by rw [getElem!_pos _ _ (by simpa using hk)]; rfl
  rw [h2]
theorem own_flat {w : World} {B : Nat} {T : TypeId} {m g n cap : Nat} {xs : List Value} (h : w.ownsRow B T m (.slice (some ⟨g, 0, none⟩) n cap) n xs) (j : Nat) (hj : j < xs.length) :
    w.cell? ⟨g, j, none⟩ = some xs[j] ∧ w.frozen? ⟨g, j, none⟩ = false := by
  rcases h.2 with ⟨hv, _⟩ | ⟨g', cap', cur, hv, _, hg, hn, _, hs, ht⟩
  · cases hv
  · cases hv
    have hc : cur[j]? = xs[j]? := by rw [← ht, List.getElem?_take_of_lt (by rw [← h.1]; exact hj), Array.getElem?_toList]
    refine ⟨?_, by simp [World.frozen?, hg]⟩
    simp only [World.cell?, hg]
    rw [show (Option.isSome (none : Option _)) = false from rfl]
    simp only [Bool.false_eq_true, if_false]
    rw [hc, List.getElem?_eq_getElem hj]
theorem holdsK_of_own {α : Type} [Inhabited α] {w : World} {B : Nat} {T : TypeId} {m g n cap : Nat} {f : α → List Value} {l : List α} (hf : ∀ x, (f x).length = m) (h : w.ownsRow B T m (.slice (some ⟨g, 0, none⟩) n cap) n (l.flatMap f)) :
    HoldsK f m w g 0 l.toArray := by
  unfold HoldsK
  rw [flatK_is f m hf]
  intro j hj
  have hj' : j < (l.flatMap f).length := by simpa using hj
  rw [Nat.zero_add]
  obtain ⟨h1, h2⟩ := own_flat h j hj'
  refine ⟨?_, h2⟩
  rw [h1, getElem!_pos (l.flatMap f).toArray j hj]
  rfl
theorem own_sorted {α : Type} [Inhabited α] {w : World} {B : Nat} {T : TypeId} {m g n cap q : Nat} {os : Array Obj} {f : α → List Value} {l l' : List α} (hf : ∀ x, (f x).length = m) (h : w.ownsRow B T m (.slice (some ⟨g, 0, none⟩) n cap) n (l.flatMap f)) (hl : l'.length = l.length) :
    (sortWorldK f m w g 0 q l'.toArray os).ownsRow B T m (.slice (some ⟨g, 0, none⟩) n cap) n (l'.flatMap f) := by
  have hlen : (l'.flatMap f).length = (l.flatMap f).length := by rw [flat_len f m hf, flat_len f m hf, hl]
  refine ⟨by rw [hlen]; exact h.1, ?_⟩
  rcases h.2 with ⟨hv, _⟩ | ⟨g', cap', cur, hv, hB, hg, hn, hm, hs, ht⟩
  · cases hv
  · cases hv
    have hgl : g < w.heap.size := (Array.getElem?_eq_some_iff.1 hg).1
    refine Or.inr ⟨g, cap, putCells id 0 (l'.flatMap f).toArray cur, rfl, hB, ?_, hn, hm, by simpa [putCells] using hs, ?_⟩
    · unfold sortWorldK putRowK
      rw [flatK_is f m hf, heap_grow_old _ _ (by simpa using hgl)]
      simp [putRow, mapBlock, Sort.ahead, Array.getElem?_modify, hg, onCells]
    · apply List.ext_getElem?
      intro j
      have hnm : n * m = (l'.flatMap f).length := by rw [hlen]; exact h.1.symm
      have hcs : n * m ≤ cur.size := by rw [hs]; exact Nat.mul_le_mul_right _ hn
      by_cases hj : j < n * m
      · rw [List.getElem?_take_of_lt hj, Array.getElem?_toList]
        have hjc : j < cur.size := by omega
        have hj3 : j < (l'.flatMap f).length := by omega
        simp only [putCells, Array.getElem?_mapIdx, Array.getElem?_eq_getElem hjc, Option.map_some]
        rw [if_pos (by simp only [List.size_toArray]; omega), Nat.sub_zero, getElem!_pos _ _ (by simpa using hj3), List.getElem?_eq_getElem hj3]
        rfl
      · rw [List.getElem?_take_eq_none (by omega), List.getElem?_eq_none (by omega)]
theorem grown_sorted {α : Type} [Inhabited α] {w : World} {m g q : Nat} {os : Array Obj} {f : α → List Value} (d : Array α) : w.grownBy (sortWorldK f m w g 0 q d os) (some g) := by
  unfold sortWorldK putRowK
  refine ⟨rfl, rfl, rfl, by simp, fun k hk hne => ?_⟩
  rw [heap_grow_old _ _ (by simpa using hk)]
  have : g ≠ k := fun e => hne (by rw [e])
  simp [putRow, mapBlock, Sort.ahead, Array.getElem?_modify, this]
theorem lt_cmp (x y : Ev) : ltOf cmpE x y = true ↔ x.day < y.day ∨ (x.day = y.day ∧ (x.kind < y.kind ∨ (x.kind = y.kind ∧ x.id < y.id))) := by
  unfold ltOf cmpE orI cmpI
  rw [decide_eq_true_iff]
  repeat' split
  all_goals omega
theorem swo_cmp : SWO (ltOf cmpE) where
  irrefl x := by
    rw [← Bool.not_eq_true, lt_cmp]; omega
  trans x y z h1 h2 := by rw [lt_cmp] at *; omega
  ntrans x y z h1 h2 := by rw [← Bool.not_eq_true, lt_cmp] at *; omega
theorem id_inj : ∀ {l : List Ev}, (l.map (·.id)).Nodup → ∀ x y, x ∈ l → y ∈ l → x.id = y.id → x = y
  | [], _, x, _, hx, _, _ => by cases hx
  | z :: l, hn, x, y, hx, hy, e => by
    rw [List.map_cons, List.nodup_cons] at hn
    rcases List.mem_cons.1 hx with e1 | h1
    · rcases List.mem_cons.1 hy with e2 | h2
      · rw [e1, e2]
      · exact absurd (show z.id ∈ l.map (·.id) from List.mem_map.2 ⟨y, h2, by rw [← e, e1]⟩) hn.1
    · rcases List.mem_cons.1 hy with e2 | h2
      · exact absurd (show z.id ∈ l.map (·.id) from List.mem_map.2 ⟨x, h1, by rw [e, e2]⟩) hn.1
      · exact id_inj hn.2 x y h1 h2 e
/-- Of events with numbers of their own there is one list that is sorted. -/
theorem sorted_one {l l' : List Ev} (hp : l.Perm l') (hs : l.Pairwise fun x y => ltOf cmpE y x = false) (hs' : l'.Pairwise fun x y => ltOf cmpE y x = false) (hn : (l.map (·.id)).Nodup) : l = l' := by
  have key : ∀ x y, x ∈ l → y ∈ l → ltOf cmpE y x = false → ltOf cmpE x y = false → x = y := by
    intro x y hx hy h1 h2
    have e : x.id = y.id := by
      have a1 : ¬ ltOf cmpE y x = true := by rw [h1]; exact Bool.false_ne_true
      have a2 : ¬ ltOf cmpE x y = true := by rw [h2]; exact Bool.false_ne_true
      rw [lt_cmp] at a1 a2
      omega
    exact id_inj hn x y hx hy e
  exact List.Perm.eq_of_pairwise (le := fun x y => ltOf cmpE y x = false) (fun x y hx hy h1 h2 => key x y hx (hp.mem_iff.2 hy) h1 h2) hs hs' hp
/-- What tallymanref.ordered's own closure says. -/
def ltA (x y : Ev) : Bool := ltOf cmpE x y
/-- An event with the place at which it stood. -/
abbrev EvN : Type := Ev × Nat
def ltP (p r : EvN) : Bool := ltA p.1 r.1 || (!ltA r.1 p.1 && decide (p.2 < r.2))
theorem ltP_iff (p r : EvN) : ltP p r = true ↔ p.1.day < r.1.day ∨ (p.1.day = r.1.day ∧ (p.1.kind < r.1.kind ∨ (p.1.kind = r.1.kind ∧ (p.1.id < r.1.id ∨ (p.1.id = r.1.id ∧ p.2 < r.2))))) := by
  have h1 := lt_cmp p.1 r.1
  have h2 := lt_cmp r.1 p.1
  unfold ltP ltA
  simp only [Bool.or_eq_true, Bool.and_eq_true, Bool.not_eq_true', decide_eq_true_eq]
  rw [← Bool.not_eq_true, h1, h2]
  omega
theorem swo_P : SWO ltP where
  irrefl x := by rw [← Bool.not_eq_true, ltP_iff]; omega
  trans x y z h1 h2 := by rw [ltP_iff] at *; omega
  ntrans x y z h1 h2 := by rw [← Bool.not_eq_true, ltP_iff] at *; omega
/-- The stable row. -/
def stl (l : List Ev) : List Ev := (insertionSort ltP l.zipIdx.toArray 0 l.length).toList.map (·.1)
theorem permP {d d' : Array EvN} (h : PermIn 0 d.size d d') : d'.toList.Perm d.toList := by
  have h2 := h.2.2
  have hs := h.1
  rw [Array.toList_extract, Array.toList_extract] at h2
  simp only [List.extract_eq_take_drop] at h2
  simpa [List.take_of_length_le (show d'.toList.length ≤ d.size by simp [hs]), List.take_of_length_le (show d.toList.length ≤ d.size by simp)] using h2
theorem sortP {d : Array EvN} (h : SortedIn ltP 0 d.size d) : d.toList.Pairwise fun x y => ltP y x = false := by
  rw [List.pairwise_iff_getElem]
  intro i j hi hj hij
  have hi' : i < d.size := by simpa using hi
  have hj' : j < d.size := by simpa using hj
  have h2 := h i j (Nat.zero_le _) hij hj'
  rw [getElem!_pos d i hi', getElem!_pos d j hj'] at h2
  simp only [Array.getElem_toList]
  exact h2
theorem zip_inj {l : List Ev} {p r : EvN} (hp : p ∈ l.zipIdx) (hr : r ∈ l.zipIdx) (e : p.2 = r.2) : p = r := by
  have h1 := List.mem_zipIdx_iff_getElem?.1 hp
  have h2 := List.mem_zipIdx_iff_getElem?.1 hr
  rw [e, h2] at h1
  exact Prod.ext (Option.some.inj h1).symm e
/-- Whatever is sorted so, of all of them, is that row. -/
theorem stl_of {l : List Ev} {ps : List EvN} (hp : ps.Perm l.zipIdx) (hs : ps.Pairwise fun x y => ltP y x = false) : ps.map (·.1) = stl l := by
  have hi := insertionSort_holds (lt := ltP) swo_P l.zipIdx.toArray 0 l.length (Nat.zero_le _) (by simp)
  have hsz : l.zipIdx.toArray.size = l.length := by simp
  have h1 : (insertionSort ltP l.zipIdx.toArray 0 l.length).toList.Perm l.zipIdx := by
    have := permP (d := l.zipIdx.toArray) (by rw [hsz]; exact hi.1)
    simpa using this
  have h2 : (insertionSort ltP l.zipIdx.toArray 0 l.length).toList.Pairwise fun x y => ltP y x = false := sortP (by
    have e : (insertionSort ltP l.zipIdx.toArray 0 l.length).size = l.length := by rw [hi.1.1]; exact hsz
    rw [e]; exact hi.2)
  unfold stl
  congr 1
  refine List.Perm.eq_of_pairwise (le := fun x y => ltP y x = false) (fun x y hx hy a1 a2 => ?_) hs h2 (hp.trans h1.symm)
  refine zip_inj (hp.mem_iff.1 hx) (h1.mem_iff.1 hy) ?_
  rw [← Bool.not_eq_true, ltP_iff] at a1 a2
  omega
theorem map_get (d : Array EvN) (i : Nat) : (d.map (·.1))[i]! = d[i]!.1 := by
  by_cases h : i < d.size
  · rw [getElem!_pos _ _ (by simpa using h), getElem!_pos d i h]; simp
  · rw [getElem!_neg _ _ (by simpa using h), getElem!_neg d i h]; rfl
theorem map_swp (d : Array EvN) (i j : Nat) : (swp d i j).map (·.1) = swp (d.map (·.1)) i j := by
  unfold swp
  simp only [map_get]
  simp
theorem less_P {p r : EvN} (h : r.2 < p.2) : ltP p r = ltA p.1 r.1 := by
  unfold ltP
  rw [show decide (p.2 < r.2) = false by simp; omega]
  simp
theorem stl_len (l : List Ev) : (stl l).length = l.length := by
  have hi := insertionSort_holds (lt := ltP) swo_P l.zipIdx.toArray 0 l.length (Nat.zero_le _) (by simp)
  unfold stl
  rw [List.length_map, Array.length_toList, hi.1.1]
  simp
theorem stl_perm (l : List Ev) : (stl l).Perm l := by
  have hi := insertionSort_holds (lt := ltP) swo_P l.zipIdx.toArray 0 l.length (Nat.zero_le _) (by simp)
  have hsz : l.zipIdx.toArray.size = l.length := by simp
  have h1 := permP (d := l.zipIdx.toArray) (by rw [hsz]; exact hi.1)
  have h2 := h1.map (·.1)
  unfold stl
  simpa using h2
end Go.Proofs.YtcfgacdcgljbaaaGreatDoor
namespace Go.Proofs.YtcfgacdcgljbaaaGreatDoor
open Go.RowKit
theorem in_yes (n l h : Int) (w : World) (h1 : l ≤ n) (h2 : n ≤ h) : Calls Tryz.prog 45 #[.int .i64 n, .int .i64 l, .int .i64 h] w fun e w' => e = .returned (.bool true) ∧ w' = w := by
  go_enter Tryz.func45, Tryz.ntmps45
  go_wp2
  go_ret
  exact ⟨congrArg (fun x => Ending.returned (.bool x)) (by simp [*]), rfl⟩
theorem in_no (n l h : Int) (w : World) (h1 : n < l ∨ h < n) : Calls Tryz.prog 45 #[.int .i64 n, .int .i64 l, .int .i64 h] w fun e w' => e = .returned (.bool false) ∧ w' = w := by
  by_cases c : l ≤ n
  · have c2 : h < n := by omega
    go_enter Tryz.func45, Tryz.ntmps45
    go_wp2
    go_ret
    refine ⟨?_, rfl⟩
    have : decide (n ≤ h) = false := decide_eq_false (by omega)
    simp [this]
  · go_enter Tryz.func45, Tryz.ntmps45
    go_wp2
    go_ret
    refine ⟨?_, rfl⟩
    simp; try omega
end Go.Proofs.YtcfgacdcgljbaaaGreatDoor
namespace Go.Proofs.YtcfgacdcgljbaaaGreatDoor
open Go.RowKit
/-- One is ahead of another. -/
def Ahd (a b : Ev) : Prop := a.day < b.day ∨ (a.day = b.day ∧ (a.kind < b.kind ∨ (a.kind = b.kind ∧ a.id < b.id)))
theorem cmpI_cases (x y : Int) : (x < y ∧ cmpI x y = -1) ∨ (x = y ∧ cmpI x y = 0) ∨ (y < x ∧ cmpI x y = 1) := by
  unfold cmpI
  split
  · left; exact ⟨‹_›, rfl⟩
  · split
    · right; right; exact ⟨‹_›, rfl⟩
    · right; left; exact ⟨by omega, rfl⟩
theorem cmpE_cases (a b : Ev) : (Ahd a b ∧ cmpE a b = -1) ∨ ((a.day = b.day ∧ a.kind = b.kind ∧ a.id = b.id) ∧ cmpE a b = 0) ∨ (Ahd b a ∧ cmpE a b = 1) := by
  unfold cmpE Ahd orI
  rcases cmpI_cases a.day b.day with ⟨h1, e1⟩ | ⟨h1, e1⟩ | ⟨h1, e1⟩
  · rw [e1, if_neg (by decide)]; omega
  · rw [e1, if_pos rfl]
    rcases cmpI_cases a.kind b.kind with ⟨h2, e2⟩ | ⟨h2, e2⟩ | ⟨h2, e2⟩
    · rw [e2, if_neg (by decide)]; omega
    · rw [e2, if_pos rfl]
      rcases cmpI_cases a.id b.id with ⟨h3, e3⟩ | ⟨h3, e3⟩ | ⟨h3, e3⟩
      · rw [e3]; omega
      · rw [e3]; omega
      · rw [e3]; omega
    · rw [e2, if_neg (by decide)]; omega
  · rw [e1, if_neg (by decide)]; omega
set_option maxHeartbeats 2000000 in
theorem ahead_any (a b : Ev) (w : World) :
    Calls Tryz.prog 101 #[evV a, evV b] w fun x w' => Tells x (Ahd a b) ∧ Below w.heap.size w w' := by
  obtain ⟨id, item, kind, qty, price, ofI, day⟩ := a
  obtain ⟨id2, item2, kind2, qty2, price2, ofI2, day2⟩ := b
  have hb : Below w.heap.size w ((w.alloc (.cells #[.int .i64 id, .string item, .int .i64 kind, .int .i64 qty, .int .i64 price, .int .i64 ofI, .int .i64 day] 44)).alloc (.cells #[.int .i64 id2, .string item2, .int .i64 kind2, .int .i64 qty2, .int .i64 price2, .int .i64 ofI2, .int .i64 day2] 44)) := ((Below.refl _ _).alloc (Nat.le_refl _) _).alloc (by simp) _
  unfold evV
  simp only
  by_cases h1 : day = day2
  · by_cases h2 : kind = kind2
    · subst h1 h2
      go_enter Tryz.func101, Tryz.ntmps101
      go_wp2
      go_ret
      refine ⟨⟨decide (id < id2), rfl, ?_⟩, hb⟩
      unfold Ahd
      simp
    · subst h1
      go_enter Tryz.func101, Tryz.ntmps101
      go_wp2
      go_ret
      refine ⟨⟨decide (kind < kind2), rfl, ?_⟩, hb⟩
      unfold Ahd
      simp
      omega
  · go_enter Tryz.func101, Tryz.ntmps101
    go_wp2
    go_ret
    refine ⟨⟨decide (day < day2), rfl, ?_⟩, hb⟩
    unfold Ahd
    simp
    omega
set_option maxHeartbeats 2000000 in
theorem rname_any (s : ByteArray) (w : World) (hs : s.size ≤ maxLen) :
    Calls Tryz.prog 139 #[.string s] w fun e w' => Tells e (isName s.data.toList) ∧ w' = w := by
  unfold maxLen at hs
  go_enter Tryz.func139, Tryz.ntmps139
  go_wp2
  go_loop [7] (fun i => ∃ k : Nat, k ≤ s.size ∧ i = .int .i64 k ∧ ∀ (j : Nat) (hj : j < s.size), j < k → isLet s[j] ∨ (j ≠ 0 ∧ isDig s[j])) (fun i => s.size - (intOf i).toNat)
  case atStart => exact ⟨0, Nat.zero_le _, rfl, fun j _ hj => by omega⟩
  case round =>
    obtain ⟨k, hk, rfl, hall⟩ := hrel
    have HA := hidE hall
    clear hall
    by_cases hlt : k < s.size
    · have hck : s[k].toNat < 256 := s[k].toNat_lt
      by_cases a1 : 97 ≤ s[k].toNat ∧ s[k].toNat ≤ 122
      · obtain ⟨a1l, a1h⟩ := a1
        have b2 : decide ((s[k].toNat : Int) ≤ 122) = true := decide_eq_true (by omega)
        go_wp2
        go_round
        case rel => exact ⟨k + 1, by omega, by go_num, fun j hj hjk => by
          by_cases e : j = k
          · subst e; exact .inl ⟨a1l, a1h⟩
          · exact HA.out j hj (by omega)⟩
        case measure => simp [intOf]; omega
      · by_cases k0 : k = 0
        · subst k0
          have HF : Hid (¬ isName s.data.toList) := fun h => absurd (h.2.1 _ (ehead_is s hlt)) a1
          by_cases b1 : 97 ≤ s[0].toNat
          · have b2 : decide ((s[0].toNat : Int) ≤ 122) = false := decide_eq_false (by omega)
            clear a1
            go_wp2
            go_ret
            exact ⟨⟨false, rfl, ⟨fun h => (by cases h), fun h => absurd h HF.out⟩⟩, rfl⟩
          · clear a1
            go_wp2
            go_ret
            exact ⟨⟨false, rfl, ⟨fun h => (by cases h), fun h => absurd h HF.out⟩⟩, rfl⟩
        · by_cases a2 : 48 ≤ s[k].toNat ∧ s[k].toNat ≤ 57
          · obtain ⟨a2l, a2h⟩ := a2
            have b1 : ¬ 97 ≤ s[k].toNat := by omega
            have b4 : decide ((s[k].toNat : Int) ≤ 57) = true := decide_eq_true (by omega)
            have k9 : ¬ (k : Int) = 0 := by omega
            clear a1
            go_wp2
            go_round
            case rel => exact ⟨k + 1, by omega, by go_num, fun j hj hjk => by
              by_cases e : j = k
              · subst e; exact .inr ⟨k0, a2l, a2h⟩
              · exact HA.out j hj (by omega)⟩
            case measure => simp [intOf]; omega
          · have HF : Hid (¬ isName s.data.toList) := fun h => by
              rcases h.2.2 _ (at_mem s k hlt) with h | h
              · exact absurd h a1
              · exact absurd h a2
            by_cases b1 : 97 ≤ s[k].toNat
            · have b2 : decide ((s[k].toNat : Int) ≤ 122) = false := decide_eq_false (by omega)
              have b3 : 48 ≤ s[k].toNat := by omega
              have b4 : decide ((s[k].toNat : Int) ≤ 57) = false := decide_eq_false (by omega)
              have k9 : ¬ (k : Int) = 0 := by omega
              clear a1 a2
              go_wp2
              go_ret
              exact ⟨⟨false, rfl, ⟨fun h => (by cases h), fun h => absurd h HF.out⟩⟩, rfl⟩
            · by_cases b3 : 48 ≤ s[k].toNat
              · have b4 : decide ((s[k].toNat : Int) ≤ 57) = false := decide_eq_false (by omega)
                have k9 : ¬ (k : Int) = 0 := by omega
                clear a1 a2
                go_wp2
                go_ret
                exact ⟨⟨false, rfl, ⟨fun h => (by cases h), fun h => absurd h HF.out⟩⟩, rfl⟩
              · have k9 : ¬ (k : Int) = 0 := by omega
                clear a1 a2
                go_wp2
                go_ret
                exact ⟨⟨false, rfl, ⟨fun h => (by cases h), fun h => absurd h HF.out⟩⟩, rfl⟩
    · have HN : Hid (1 ≤ s.size → s.size ≤ 10 → isName s.data.toList) := by
        intro h1 h2
        refine ⟨⟨by rw [eba_len]; exact h1, by rw [eba_len]; exact h2⟩, ?_, ?_⟩
        · intro c hc
          rw [ehead_is s (by omega)] at hc
          cases hc
          rcases HA.out 0 (by omega) (by omega) with h | h
          · exact h
          · exact absurd rfl h.1
        · intro c hc
          obtain ⟨j, hj, rfl⟩ := mem_at s c hc
          rcases HA.out j hj (by omega) with h | h
          · exact .inl h
          · exact .inr h.2
      clear HA
      by_cases hin : 1 ≤ s.size ∧ s.size ≤ 10
      · go_wp2_with fail
        refine (in_yes (s.size : Int) 1 10 _ (by omega) (by omega)).mono ?_
        rintro e w' ⟨rfl, hw⟩
        subst w'
        go_wp2
        go_ret
        exact ⟨⟨true, rfl, ⟨fun _ => HN.out hin.1 hin.2, fun _ => rfl⟩⟩, rfl⟩
      · go_wp2_with fail
        refine (in_no (s.size : Int) 1 10 _ (by omega)).mono ?_
        rintro e w' ⟨rfl, hw⟩
        subst w'
        go_wp2
        go_ret
        exact ⟨⟨false, rfl, ⟨fun h => (by cases h), fun h => absurd ⟨by have := h.1.1; rw [eba_len] at this; exact this, by have := h.1.2; rw [eba_len] at this; exact this⟩ hin⟩⟩, rfl⟩
set_option maxHeartbeats 8000000 in
theorem rright_any (e : Ev) (w : World) (hw : EvW e) :
    Calls Tryz.prog 91 #[evV e] w fun x w' => Tells x (Rt e) ∧ Below w.heap.size w w' := by
  obtain ⟨id, item, kind, qty, price, ofI, day⟩ := e
  obtain ⟨_, hs, _, _, _, ho0, _⟩ := hw
  have ho : ofI ≤ 9223372036854775807 := (int_bd ho0).2
  clear ho0
  unfold evV
  simp only at hs ho ⊢
  by_cases k1 : kind = 1
  · subst k1
    have hb : Below w.heap.size w (w.alloc (.cells #[.int .i64 id, .string item, .int .i64 1, .int .i64 qty, .int .i64 price, .int .i64 ofI, .int .i64 day] 44)) := (Below.refl _ _).alloc (Nat.le_refl _) _
    by_cases hq : 1 ≤ qty ∧ qty ≤ 100000
    · skip
      by_cases hp : 0 ≤ price ∧ price ≤ 1000000
      · skip
        by_cases ho2 : ofI = 0
        · subst ho2
          go_enter Tryz.func91, Tryz.ntmps91
          go_wp2_with fail
          refine (in_yes qty 1 100000 _ (by omega) (by omega)).mono ?_
          rintro e w' ⟨rfl, hw⟩
          subst w'
          go_wp2_with fail
          refine (in_yes price 0 1000000 _ (by omega) (by omega)).mono ?_
          rintro e w' ⟨rfl, hw⟩
          subst w'
          go_wp2_with fail
          refine (rname_any item _ hs).mono ?_
          rintro e w' ⟨⟨b, rfl, hbn⟩, hw⟩
          subst w'
          have HB := hidE hbn
          clear hbn
          rcases b with _ | _
          · go_wp2
            go_ret
            exact ⟨⟨false, rfl, ⟨fun h => (by cases h), fun h => absurd (HB.out.2 h.1) (by simp)⟩⟩, hb⟩
          · by_cases hd : 0 ≤ day ∧ day ≤ 99999
            · skip
              go_wp2_with fail
              refine (in_yes day 0 99999 _ (by omega) (by omega)).mono ?_
              rintro e w' ⟨rfl, hw⟩
              subst w'
              go_wp2
              go_ret
              exact ⟨⟨true, rfl, ⟨fun _ => ⟨HB.out.1 (by trivial), hd, .inl ⟨rfl, hq, hp, rfl⟩⟩, fun _ => rfl⟩⟩, hb⟩
            · skip
              go_wp2_with fail
              refine (in_no day 0 99999 _ (by omega)).mono ?_
              rintro e w' ⟨rfl, hw⟩
              subst w'
              go_wp2
              go_ret
              exact ⟨⟨false, rfl, ⟨fun h => (by cases h), fun h => absurd h.2.1 hd⟩⟩, hb⟩
        · skip
          go_enter Tryz.func91, Tryz.ntmps91
          go_wp2_with fail
          refine (in_yes qty 1 100000 _ (by omega) (by omega)).mono ?_
          rintro e w' ⟨rfl, hw⟩
          subst w'
          go_wp2_with fail
          refine (in_yes price 0 1000000 _ (by omega) (by omega)).mono ?_
          rintro e w' ⟨rfl, hw⟩
          subst w'
          go_wp2
          go_ret
          exact ⟨⟨false, rfl, ⟨fun h => (by cases h), fun h => (by have hk := h.2.2; unfold rtK at hk; simp only at hk; omega)⟩⟩, hb⟩
      · skip
        go_enter Tryz.func91, Tryz.ntmps91
        go_wp2_with fail
        refine (in_yes qty 1 100000 _ (by omega) (by omega)).mono ?_
        rintro e w' ⟨rfl, hw⟩
        subst w'
        go_wp2_with fail
        refine (in_no price 0 1000000 _ (by omega)).mono ?_
        rintro e w' ⟨rfl, hw⟩
        subst w'
        go_wp2
        go_ret
        exact ⟨⟨false, rfl, ⟨fun h => (by cases h), fun h => (by have hk := h.2.2; unfold rtK at hk; simp only at hk; omega)⟩⟩, hb⟩
    · skip
      go_enter Tryz.func91, Tryz.ntmps91
      go_wp2_with fail
      refine (in_no qty 1 100000 _ (by omega)).mono ?_
      rintro e w' ⟨rfl, hw⟩
      subst w'
      go_wp2
      go_ret
      exact ⟨⟨false, rfl, ⟨fun h => (by cases h), fun h => (by have hk := h.2.2; unfold rtK at hk; simp only at hk; omega)⟩⟩, hb⟩
  by_cases k2 : kind = 2
  · subst k2
    have hb : Below w.heap.size w (w.alloc (.cells #[.int .i64 id, .string item, .int .i64 2, .int .i64 qty, .int .i64 price, .int .i64 ofI, .int .i64 day] 44)) := (Below.refl _ _).alloc (Nat.le_refl _) _
    by_cases hq : qty = 0
    · subst hq
      by_cases hp : 1 ≤ price ∧ price ≤ 100000000000
      · skip
        by_cases ho2 : 0 < ofI
        · skip
          go_enter Tryz.func91, Tryz.ntmps91
          go_wp2_with fail
          refine (in_yes price 1 100000000000 _ (by omega) (by omega)).mono ?_
          rintro e w' ⟨rfl, hw⟩
          subst w'
          go_wp2_with fail
          refine (rname_any item _ hs).mono ?_
          rintro e w' ⟨⟨b, rfl, hbn⟩, hw⟩
          subst w'
          have HB := hidE hbn
          clear hbn
          rcases b with _ | _
          · go_wp2
            go_ret
            exact ⟨⟨false, rfl, ⟨fun h => (by cases h), fun h => absurd (HB.out.2 h.1) (by simp)⟩⟩, hb⟩
          · by_cases hd : 0 ≤ day ∧ day ≤ 99999
            · skip
              go_wp2_with fail
              refine (in_yes day 0 99999 _ (by omega) (by omega)).mono ?_
              rintro e w' ⟨rfl, hw⟩
              subst w'
              go_wp2
              go_ret
              exact ⟨⟨true, rfl, ⟨fun _ => ⟨HB.out.1 (by trivial), hd, .inr (.inl ⟨rfl, rfl, hp, ⟨show 1 ≤ ofI by omega, ho⟩⟩)⟩, fun _ => rfl⟩⟩, hb⟩
            · skip
              go_wp2_with fail
              refine (in_no day 0 99999 _ (by omega)).mono ?_
              rintro e w' ⟨rfl, hw⟩
              subst w'
              go_wp2
              go_ret
              exact ⟨⟨false, rfl, ⟨fun h => (by cases h), fun h => absurd h.2.1 hd⟩⟩, hb⟩
        · skip
          go_enter Tryz.func91, Tryz.ntmps91
          go_wp2_with fail
          refine (in_yes price 1 100000000000 _ (by omega) (by omega)).mono ?_
          rintro e w' ⟨rfl, hw⟩
          subst w'
          go_wp2
          go_ret
          exact ⟨⟨false, rfl, ⟨fun h => (by cases h), fun h => (by have hk := h.2.2; unfold rtK at hk; simp only at hk; omega)⟩⟩, hb⟩
      · skip
        go_enter Tryz.func91, Tryz.ntmps91
        go_wp2_with fail
        refine (in_no price 1 100000000000 _ (by omega)).mono ?_
        rintro e w' ⟨rfl, hw⟩
        subst w'
        go_wp2
        go_ret
        exact ⟨⟨false, rfl, ⟨fun h => (by cases h), fun h => (by have hk := h.2.2; unfold rtK at hk; simp only at hk; omega)⟩⟩, hb⟩
    · skip
      go_enter Tryz.func91, Tryz.ntmps91
      go_wp2
      go_ret
      exact ⟨⟨false, rfl, ⟨fun h => (by cases h), fun h => (by have hk := h.2.2; unfold rtK at hk; simp only at hk; omega)⟩⟩, hb⟩
  by_cases k3 : kind = 3
  · subst k3
    have hb : Below w.heap.size w (w.alloc (.cells #[.int .i64 id, .string item, .int .i64 3, .int .i64 qty, .int .i64 price, .int .i64 ofI, .int .i64 day] 44)) := (Below.refl _ _).alloc (Nat.le_refl _) _
    by_cases hq : 1 ≤ qty ∧ qty ≤ 100000
    · skip
      by_cases hp : price = 0
      · subst hp
        by_cases ho2 : ofI = 0
        · subst ho2
          go_enter Tryz.func91, Tryz.ntmps91
          go_wp2_with fail
          refine (in_yes qty 1 100000 _ (by omega) (by omega)).mono ?_
          rintro e w' ⟨rfl, hw⟩
          subst w'
          go_wp2_with fail
          refine (rname_any item _ hs).mono ?_
          rintro e w' ⟨⟨b, rfl, hbn⟩, hw⟩
          subst w'
          have HB := hidE hbn
          clear hbn
          rcases b with _ | _
          · go_wp2
            go_ret
            exact ⟨⟨false, rfl, ⟨fun h => (by cases h), fun h => absurd (HB.out.2 h.1) (by simp)⟩⟩, hb⟩
          · by_cases hd : 0 ≤ day ∧ day ≤ 99999
            · skip
              go_wp2_with fail
              refine (in_yes day 0 99999 _ (by omega) (by omega)).mono ?_
              rintro e w' ⟨rfl, hw⟩
              subst w'
              go_wp2
              go_ret
              exact ⟨⟨true, rfl, ⟨fun _ => ⟨HB.out.1 (by trivial), hd, .inr (.inr (.inl ⟨rfl, hq, rfl, rfl⟩))⟩, fun _ => rfl⟩⟩, hb⟩
            · skip
              go_wp2_with fail
              refine (in_no day 0 99999 _ (by omega)).mono ?_
              rintro e w' ⟨rfl, hw⟩
              subst w'
              go_wp2
              go_ret
              exact ⟨⟨false, rfl, ⟨fun h => (by cases h), fun h => absurd h.2.1 hd⟩⟩, hb⟩
        · skip
          go_enter Tryz.func91, Tryz.ntmps91
          go_wp2_with fail
          refine (in_yes qty 1 100000 _ (by omega) (by omega)).mono ?_
          rintro e w' ⟨rfl, hw⟩
          subst w'
          go_wp2
          go_ret
          exact ⟨⟨false, rfl, ⟨fun h => (by cases h), fun h => (by have hk := h.2.2; unfold rtK at hk; simp only at hk; omega)⟩⟩, hb⟩
      · skip
        go_enter Tryz.func91, Tryz.ntmps91
        go_wp2_with fail
        refine (in_yes qty 1 100000 _ (by omega) (by omega)).mono ?_
        rintro e w' ⟨rfl, hw⟩
        subst w'
        go_wp2
        go_ret
        exact ⟨⟨false, rfl, ⟨fun h => (by cases h), fun h => (by have hk := h.2.2; unfold rtK at hk; simp only at hk; omega)⟩⟩, hb⟩
    · skip
      go_enter Tryz.func91, Tryz.ntmps91
      go_wp2_with fail
      refine (in_no qty 1 100000 _ (by omega)).mono ?_
      rintro e w' ⟨rfl, hw⟩
      subst w'
      go_wp2
      go_ret
      exact ⟨⟨false, rfl, ⟨fun h => (by cases h), fun h => (by have hk := h.2.2; unfold rtK at hk; simp only at hk; omega)⟩⟩, hb⟩
  by_cases k4 : kind = 4
  · subst k4
    have hb : Below w.heap.size w (w.alloc (.cells #[.int .i64 id, .string item, .int .i64 4, .int .i64 qty, .int .i64 price, .int .i64 ofI, .int .i64 day] 44)) := (Below.refl _ _).alloc (Nat.le_refl _) _
    by_cases hq : 0 ≤ qty ∧ qty ≤ 100000
    · skip
      by_cases hp : price = 0
      · subst hp
        by_cases ho2 : ofI = 0
        · subst ho2
          go_enter Tryz.func91, Tryz.ntmps91
          go_wp2_with fail
          refine (in_yes qty 0 100000 _ (by omega) (by omega)).mono ?_
          rintro e w' ⟨rfl, hw⟩
          subst w'
          go_wp2_with fail
          refine (rname_any item _ hs).mono ?_
          rintro e w' ⟨⟨b, rfl, hbn⟩, hw⟩
          subst w'
          have HB := hidE hbn
          clear hbn
          rcases b with _ | _
          · go_wp2
            go_ret
            exact ⟨⟨false, rfl, ⟨fun h => (by cases h), fun h => absurd (HB.out.2 h.1) (by simp)⟩⟩, hb⟩
          · by_cases hd : 0 ≤ day ∧ day ≤ 99999
            · skip
              go_wp2_with fail
              refine (in_yes day 0 99999 _ (by omega) (by omega)).mono ?_
              rintro e w' ⟨rfl, hw⟩
              subst w'
              go_wp2
              go_ret
              exact ⟨⟨true, rfl, ⟨fun _ => ⟨HB.out.1 (by trivial), hd, .inr (.inr (.inr ⟨rfl, hq, rfl, rfl⟩))⟩, fun _ => rfl⟩⟩, hb⟩
            · skip
              go_wp2_with fail
              refine (in_no day 0 99999 _ (by omega)).mono ?_
              rintro e w' ⟨rfl, hw⟩
              subst w'
              go_wp2
              go_ret
              exact ⟨⟨false, rfl, ⟨fun h => (by cases h), fun h => absurd h.2.1 hd⟩⟩, hb⟩
        · skip
          go_enter Tryz.func91, Tryz.ntmps91
          go_wp2_with fail
          refine (in_yes qty 0 100000 _ (by omega) (by omega)).mono ?_
          rintro e w' ⟨rfl, hw⟩
          subst w'
          go_wp2
          go_ret
          exact ⟨⟨false, rfl, ⟨fun h => (by cases h), fun h => (by have hk := h.2.2; unfold rtK at hk; simp only at hk; omega)⟩⟩, hb⟩
      · skip
        go_enter Tryz.func91, Tryz.ntmps91
        go_wp2_with fail
        refine (in_yes qty 0 100000 _ (by omega) (by omega)).mono ?_
        rintro e w' ⟨rfl, hw⟩
        subst w'
        go_wp2
        go_ret
        exact ⟨⟨false, rfl, ⟨fun h => (by cases h), fun h => (by have hk := h.2.2; unfold rtK at hk; simp only at hk; omega)⟩⟩, hb⟩
    · skip
      go_enter Tryz.func91, Tryz.ntmps91
      go_wp2_with fail
      refine (in_no qty 0 100000 _ (by omega)).mono ?_
      rintro e w' ⟨rfl, hw⟩
      subst w'
      go_wp2
      go_ret
      exact ⟨⟨false, rfl, ⟨fun h => (by cases h), fun h => (by have hk := h.2.2; unfold rtK at hk; simp only at hk; omega)⟩⟩, hb⟩
  have hb : Below w.heap.size w (w.alloc (.cells #[.int .i64 id, .string item, .int .i64 kind, .int .i64 qty, .int .i64 price, .int .i64 ofI, .int .i64 day] 44)) := (Below.refl _ _).alloc (Nat.le_refl _) _
  go_enter Tryz.func91, Tryz.ntmps91
  go_wp2
  go_ret
  exact ⟨⟨false, rfl, ⟨fun h => (by cases h), fun h => (by have hk := h.2.2; unfold rtK at hk; simp only at hk; omega)⟩⟩, hb⟩
end Go.Proofs.YtcfgacdcgljbaaaGreatDoor
