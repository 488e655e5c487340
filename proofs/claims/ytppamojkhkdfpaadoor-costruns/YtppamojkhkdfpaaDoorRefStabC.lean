/- tallymanref.ordered at events that are handed in: the stable row. -/
import Derived.Test.YtppamojkhkdfpaaDoorRefStable
import Derived.Test.YtppamojkhkdfpaaDoorEvMem
namespace Go.Proofs.YtppamojkhkdfpaaDoor
open Go.RowKit
open Go.Sort hiding Below
open Go.Shelf Go.Lib
theorem evs_flat {w : World} {g o : Nat} {l : List Ev} (h : ∀ k (hk : k < l.length) j, j < 7 → w.cell? ⟨g, o + k * 7 + j, none⟩ = (evC l[k])[j]?) : ∀ j u, (l.flatMap evC)[j]? = some u → w.cell? ⟨g, o + j, none⟩ = some u := fun j u hj => by
  have hl := flat_len evC 7 evC_len l
  have hj2 : j < l.length * 7 := by
    have := (List.getElem?_eq_some_iff.1 hj).1
    omega
  have hk : j / 7 < l.length := by omega
  have e : j = j / 7 * 7 + j % 7 := by omega
  have h1 := h (j / 7) hk (j % 7) (by omega)
  have h2 := flat_get evC 7 evC_len l (j / 7) (j % 7) hk (by omega)
  rw [← e, hj] at h2
  rw [← h2] at h1
  rw [show o + j = o + j / 7 * 7 + j % 7 by omega]
  exact h1
set_option maxRecDepth 20000 in
set_option maxHeartbeats 4000000 in
theorem ordered_evs (l : List Ev) (ao : Option Addr) (cap : Nat) (w : World) (h : EvsC w ao l) (hl : l.length ≤ 1000000) :
    Calls Tryd.prog 16 #[.slice ao l.length cap] w (OrderedS l w) := by
  obtain ⟨i0, hi, hz0, hz1, hz2⟩ := info_parts Tryd.infoEv
  by_cases hl0 : l = []
  · subst hl0
    have hst : StE w.heap.size w.heap.size (w.heap.size + 1) 0 0 ((w.alloc (.cells #[] 24)).alloc (.cells #[.slice (some ⟨w.heap.size, 0, none⟩) 0 0] 22)) #[] :=
      ⟨rfl, (own_empty w).alloc _, by simp⟩
    have hc := sliceStable_stl (l := []) hst (by omega) (by simp)
    have hb : Below w.heap.size w ((w.alloc (.cells #[] 24)).alloc (.cells #[.slice (some ⟨w.heap.size, 0, none⟩) 0 0] 22)) := ((Below.refl _ _).alloc (Nat.le_refl _) _).alloc (by simp) _
    have fin : ∀ w', StE w.heap.size w.heap.size (w.heap.size + 1) 0 0 w' (stl []).toArray → ((w.alloc (.cells #[] 24)).alloc (.cells #[.slice (some ⟨w.heap.size, 0, none⟩) 0 0] 22)).grownBy w' (some w.heap.size) → OrderedS [] w (.returned (.slice (some ⟨w.heap.size, 0, none⟩) 0 0)) w' := fun w' x1 x4 => ordered_st (l := []) hb (Nat.le_refl _) x1 x4
    have HF : Hid _ := fin
    clear fin hst hb
    simp only [List.length_nil]
    rcases ao with _ | ⟨g⟩
    all_goals
      go_enter Tryd.func16, Tryd.ntmps16
      go_wp2_with fail
      refine hc.mono ?_
      rintro e w2 ⟨rfl, x1, x4⟩
      have hbx := x1.box
      have HR := HF.out w2 x1 x4
      clear x1 x4 hc
      go_wp2
      go_ret
      exact HR
  · obtain ⟨g, o, hao, hgl, hc⟩ := h (List.length_pos_iff.2 hl0)
    · subst hao
      have hE : (w.alloc (.cells #[] 24)).ownsRow w.heap.size 24 7 (.slice (some ⟨w.heap.size, 0, none⟩) 0 0) 0 [] := own_empty w
      have hnews : ∀ j u, (l.flatMap evC)[j]? = some u → w.cell? ⟨g, o + j, none⟩ = some u := fun j u hj => evs_flat hc j u hj
      have HN : Hid _ := hnews
      have HE : Hid _ := hE
      clear hnews hE
      go_enter Tryd.func16, Tryd.ntmps16
      go_wp2_with (first
        | (at_builtin; refine wpList_append_own _ rfl _ _ 22 rfl w.heap.size 24 i0 evZ 7 64 Tryd.underlying22 hi hz0 hz1 hz2 rfl (by decide) _ _ _ rfl HE.out ⟨g, o, none⟩ l.length cap (l.flatMap evC) rfl ?d0 ?d1 ?d2 ?d3 ?d4 ?d5 ?_)
        | go_in)
      case d0 => have := flat_len evC 7 evC_len l; simpa using this
      case d1 => exact HN.out
      case d2 => exact fun u x _ hx => evC_one x u hx
      case d3 => unfold maxLen; omega
      case d4 => omega
      · intro v' w2 hown2 hgr _
        have hb2 : Below w.heap.size w w2 := ((Below.refl _ _).alloc (Nat.le_refl _) _).grown hgr (by simp) (fun k hk => by cases hk; exact Nat.le_refl _)
        rcases own_form hown2 with ⟨hv, hn, hx⟩ | ⟨g2, cap2, hv, hgB2, hgl2, _⟩
        · exact absurd (List.length_eq_zero_iff.1 hn) hl0
        · subst hv
          obtain ⟨W3, hW3⟩ : ∃ x, x = w2.alloc (.cells #[.slice (some ⟨g2, 0, none⟩) l.length cap2] 22) := ⟨_, rfl⟩
          have hb3 : Below w.heap.size w W3 := by rw [hW3]; exact hb2.alloc hb2.size _
          have hst : StE w.heap.size g2 w2.heap.size l.length cap2 W3 l.toArray := by
            refine ⟨by simp, ?_, ?_⟩
            · rw [hW3]; exact hown2.alloc _
            · rw [hW3]; simp
          have hc := sliceStable_stl hst (by omega) hl
          have HF : Hid (∀ w', StE w.heap.size g2 w2.heap.size l.length cap2 w' (stl l).toArray → W3.grownBy w' (some g2) → OrderedS l w (.returned (.slice (some ⟨g2, 0, none⟩) l.length cap2)) w') := fun w' x1 x4 => ordered_st hb3 hgB2 x1 x4
          clear hst hown2 hgr
          go_wp2_with fail
          rw [← hW3]
          refine hc.mono ?_
          rintro e w4 ⟨rfl, x1, x4⟩
          have hbx := x1.box
          have HR := HF.out w4 x1 x4
          clear x1 x4 hc
          go_wp2
          go_ret
          exact HR
end Go.Proofs.YtppamojkhkdfpaaDoor
