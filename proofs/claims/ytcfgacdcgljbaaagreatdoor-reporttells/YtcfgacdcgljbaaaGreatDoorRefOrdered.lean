/- The walk of tallymanref.ordered. -/
import Derived.Test.YtcfgacdcgljbaaaGreatDoorBnG
import Derived.Test.YtcfgacdcgljbaaaGreatDoorEvInfo
namespace Go.Proofs.YtcfgacdcgljbaaaGreatDoor
open Go.RowKit
open Go.Sort hiding Below
open Go.Shelf Go.Lib
/-- Arrays that are permutations, and sorted, as lists. -/
theorem perm_list {d d' : Array Ev} (h : PermIn 0 d.size d d') : d'.toList.Perm d.toList := by
  have h2 := h.2.2
  have hs := h.1
  rw [Array.toList_extract, Array.toList_extract] at h2
  simp only [List.extract_eq_take_drop] at h2
  simpa [List.take_of_length_le (show d'.toList.length ≤ d.size by simp [hs]), List.take_of_length_le (show d.toList.length ≤ d.size by simp)] using h2
theorem sorted_list {d : Array Ev} (h : SortedIn ltA 0 d.size d) : d.toList.Pairwise fun x y => ltOf cmpE y x = false := by
  rw [List.pairwise_iff_getElem]
  intro i j hi hj hij
  have hi' : i < d.size := by simpa using hi
  have hj' : j < d.size := by simpa using hj
  have h2 := h i j (Nat.zero_le _) hij hj'
  rw [getElem!_pos d i hi', getElem!_pos d j hj'] at h2
  simp only [Array.getElem_toList]
  exact h2
/-- What ordered answers. -/
def Ordered (l : List Ev) (w : World) : Ending → World → Prop := fun r w' => ∃ (v' : Value) (l' : List Ev), r = .returned v' ∧ w'.ownsRow w.heap.size 44 7 v' l'.length (l'.flatMap evC) ∧ l'.Perm l ∧ (l'.Pairwise fun x y => ltOf cmpE y x = false) ∧ Below w.heap.size w w'
theorem ordered_of {w wa w' : World} {l : List Ev} {blk bo c : Nat} {d' : Array Ev} (hb : Below w.heap.size w wa) (hg : w.heap.size ≤ blk) (h : StE w.heap.size blk bo l.length c w' d') (hs : SortedIn ltA 0 l.length d') (hp : PermIn 0 l.length l.toArray d') (hgr : wa.grownBy w' (some blk)) : Ordered l w (.returned (.slice (some ⟨blk, 0, none⟩) l.length c)) w' := by
  have e := h.size
  refine ⟨_, d'.toList, rfl, ?_, ?_, ?_, ?_⟩
  · have := h.own
    have e2 : d'.toList.length = l.length := by rw [Array.length_toList]; exact e
    rw [e2]
    exact this
  · have := perm_list (d := l.toArray) (d' := d') (by simpa using hp)
    simpa using this
  · exact sorted_list (by rw [e]; exact hs)
  · exact hb.grown hgr hb.size (fun k hk => by cases hk; exact hg)
theorem own_empty (w : World) : (w.alloc (.cells #[] 44)).ownsRow w.heap.size 44 7 (.slice (some ⟨w.heap.size, 0, none⟩) 0 0) 0 [] :=
  ⟨rfl, Or.inr ⟨w.heap.size, 0, #[], rfl, Nat.le_refl _, by show (w.heap.push _)[w.heap.size]? = _; exact Array.getElem?_push_size, Nat.le_refl _, by simp [maxLen], rfl, rfl⟩⟩
set_option maxRecDepth 20000 in
set_option maxHeartbeats 4000000 in
theorem ordered_any {B : Nat} {v : Value} {l : List Ev} {w : World} (h : w.ownsRow B 44 7 v l.length (l.flatMap evC)) (hl : l.length ≤ 1000000) :
    Calls Tryz.prog 54 #[v] w (Ordered l w) := by
  obtain ⟨i0, hi, hz0, hz1, hz2⟩ := info_parts Tryz.infoEv
  by_cases hl0 : l = []
  · subst hl0
    have hst : StE w.heap.size w.heap.size (w.heap.size + 1) 0 0 ((w.alloc (.cells #[] 44)).alloc (.cells #[.slice (some ⟨w.heap.size, 0, none⟩) 0 0] 59)) #[] :=
      ⟨rfl, (own_empty w).alloc _, by simp⟩
    have hc := sliceStable_any hst (by omega) (by omega)
    have hb : Below w.heap.size w ((w.alloc (.cells #[] 44)).alloc (.cells #[.slice (some ⟨w.heap.size, 0, none⟩) 0 0] 59)) := ((Below.refl _ _).alloc (Nat.le_refl _) _).alloc (by simp) _
    have fin : ∀ w' d', StE w.heap.size w.heap.size (w.heap.size + 1) 0 0 w' d' → SortedIn ltA 0 0 d' → PermIn 0 0 #[] d' → ((w.alloc (.cells #[] 44)).alloc (.cells #[.slice (some ⟨w.heap.size, 0, none⟩) 0 0] 59)).grownBy w' (some w.heap.size) → Ordered [] w (.returned (.slice (some ⟨w.heap.size, 0, none⟩) 0 0)) w' := fun w' d' x1 x2 x3 x4 => ordered_of (l := []) hb (Nat.le_refl _) x1 x2 x3 x4
    have HF : Hid _ := fin
    clear fin hst hb
    have hv : v = .slice none 0 0 ∨ ∃ g cap, v = .slice (some ⟨g, 0, none⟩) 0 cap := by
      rcases own_form h with ⟨hv, hn, hx⟩ | ⟨g, cap, hv, hgB, hgl, _⟩
      · exact Or.inl hv
      · exact Or.inr ⟨g, cap, hv⟩
    rcases hv with rfl | ⟨g, cap, rfl⟩
    all_goals
      go_enter Tryz.func54, Tryz.ntmps54
      go_wp2_with fail
      refine hc.mono ?_
      rintro e w2 ⟨rfl, d', x1, x2, x3, x4⟩
      have hbx := x1.box
      have HR := HF.out w2 d' x1 x2 x3 x4
      clear x1 x2 x3 x4 hc
      go_wp2
      go_ret
      exact HR
  · rcases own_form h with ⟨hv, hn, hx⟩ | ⟨g, cap, hv, hgB, hgl, _⟩
    · exact absurd (List.length_eq_zero_iff.1 hn) hl0
    · subst hv
      have hE : (w.alloc (.cells #[] 44)).ownsRow w.heap.size 44 7 (.slice (some ⟨w.heap.size, 0, none⟩) 0 0) 0 [] := own_empty w
      have hnews : ∀ j u, (l.flatMap evC)[j]? = some u → w.cell? ⟨g, j, none⟩ = some u := fun j u hj => by
        have := h.cells (g := g) rfl j u hj
        rw [Addr.add_lit, Nat.zero_add] at this
        exact this
      have HN : Hid _ := hnews
      have HE : Hid _ := hE
      clear hnews hE
      go_enter Tryz.func54, Tryz.ntmps54
      go_wp2_with (first
        | (at_builtin; refine wpList_append_own _ rfl _ _ 59 rfl w.heap.size 44 i0 evZ 7 64 Tryz.underlying59 hi hz0 hz1 hz2 rfl (by decide) _ _ _ rfl HE.out ⟨g, 0, none⟩ l.length cap (l.flatMap evC) rfl ?d0 ?d1 ?d2 ?d3 ?d4 ?d5 ?_)
        | go_in)
      case d0 => have := flat_len evC 7 evC_len l; simpa using this
      case d1 => exact HN.out
      case d2 => exact fun u x _ hx => evC_one x u hx
      case d3 => unfold maxLen; omega
      case d4 => omega
      · intro v' w2 hown2 hgr _
        have hb2 : Below w.heap.size w w2 := ((Below.refl _ _).alloc (Nat.le_refl _) _).grown hgr (by simp) (fun k hk => by cases hk; exact Nat.le_refl _)
        rcases own_form hown2 with ⟨hv, hn, hx⟩ | ⟨g2, cap2, hv, hgB2, hgl2, _⟩
        · exact absurd (List.length_eq_zero_iff.1 hn) hl0
        · subst hv
          obtain ⟨W3, hW3⟩ : ∃ x, x = w2.alloc (.cells #[.slice (some ⟨g2, 0, none⟩) l.length cap2] 59) := ⟨_, rfl⟩
          have hb3 : Below w.heap.size w W3 := by rw [hW3]; exact hb2.alloc hb2.size _
          have hst : StE w.heap.size g2 w2.heap.size l.length cap2 W3 l.toArray := by
            refine ⟨by simp, ?_, ?_⟩
            · rw [hW3]; exact hown2.alloc _
            · rw [hW3]; simp
          have hc := sliceStable_any hst (by omega) hl
          have HF : Hid (∀ w' d', StE w.heap.size g2 w2.heap.size l.length cap2 w' d' → SortedIn ltA 0 l.length d' → PermIn 0 l.length l.toArray d' → W3.grownBy w' (some g2) → Ordered l w (.returned (.slice (some ⟨g2, 0, none⟩) l.length cap2)) w') := fun w' d' x1 x2 x3 x4 => ordered_of hb3 hgB2 x1 x2 x3 x4
          clear hst hown2 hgr
          go_wp2_with fail
          rw [← hW3]
          refine hc.mono ?_
          rintro e w4 ⟨rfl, d', x1, x2, x3, x4⟩
          have hbx := x1.box
          have HR := HF.out w4 d' x1 x2 x3 x4
          clear x1 x2 x3 x4 hc
          go_wp2
          go_ret
          exact HR
end Go.Proofs.YtcfgacdcgljbaaaGreatDoor
