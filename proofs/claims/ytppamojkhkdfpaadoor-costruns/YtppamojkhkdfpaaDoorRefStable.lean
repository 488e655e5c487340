/- tallymanref.ordered: the stable row. -/
import Derived.Test.YtppamojkhkdfpaaDoorStabRow
namespace Go.Proofs.YtppamojkhkdfpaaDoor
open Go.RowKit
open Go.Sort hiding Below
open Go.Shelf Go.Lib
/-- What ordered answers: the stable row. -/
def OrderedS (l : List Ev) (w : World) : Ending → World → Prop := fun r w' => ∃ v' : Value, r = .returned v' ∧ w'.ownsRow w.heap.size 24 7 v' (stl l).length ((stl l).flatMap evC) ∧ Below w.heap.size w w'
theorem ordered_st {w wa w' : World} {l : List Ev} {blk bo c : Nat} (hb : Below w.heap.size w wa) (hg : w.heap.size ≤ blk) (h : StE w.heap.size blk bo l.length c w' (stl l).toArray) (hgr : wa.grownBy w' (some blk)) : OrderedS l w (.returned (.slice (some ⟨blk, 0, none⟩) l.length c)) w' := by
  refine ⟨_, rfl, ?_, hb.grown hgr hb.size (fun k hk => by cases hk; exact hg)⟩
  have := h.own
  rw [stl_len]
  exact this
set_option maxRecDepth 20000 in
set_option maxHeartbeats 4000000 in
theorem ordered_stl {B : Nat} {v : Value} {l : List Ev} {w : World} (h : w.ownsRow B 24 7 v l.length (l.flatMap evC)) (hl : l.length ≤ 1000000) :
    Calls Tryd.prog 16 #[v] w (OrderedS l w) := by
  obtain ⟨i0, hi, hz0, hz1, hz2⟩ := info_parts Tryd.infoEv
  by_cases hl0 : l = []
  · subst hl0
    have hst : StE w.heap.size w.heap.size (w.heap.size + 1) 0 0 ((w.alloc (.cells #[] 24)).alloc (.cells #[.slice (some ⟨w.heap.size, 0, none⟩) 0 0] 22)) #[] :=
      ⟨rfl, (own_empty w).alloc _, by simp⟩
    have hc := sliceStable_stl (l := []) hst (by omega) (by simp)
    have hb : Below w.heap.size w ((w.alloc (.cells #[] 24)).alloc (.cells #[.slice (some ⟨w.heap.size, 0, none⟩) 0 0] 22)) := ((Below.refl _ _).alloc (Nat.le_refl _) _).alloc (by simp) _
    have fin : ∀ w', StE w.heap.size w.heap.size (w.heap.size + 1) 0 0 w' (stl []).toArray → ((w.alloc (.cells #[] 24)).alloc (.cells #[.slice (some ⟨w.heap.size, 0, none⟩) 0 0] 22)).grownBy w' (some w.heap.size) → OrderedS [] w (.returned (.slice (some ⟨w.heap.size, 0, none⟩) 0 0)) w' := fun w' x1 x4 => ordered_st (l := []) hb (Nat.le_refl _) x1 x4
    have HF : Hid _ := fin
    clear fin hst hb
    have hv : v = .slice none 0 0 ∨ ∃ g cap, v = .slice (some ⟨g, 0, none⟩) 0 cap := by
      rcases own_form h with ⟨hv, hn, hx⟩ | ⟨g, cap, hv, hgB, hgl, _⟩
      · exact Or.inl hv
      · exact Or.inr ⟨g, cap, hv⟩
    rcases hv with rfl | ⟨g, cap, rfl⟩
    all_goals
      go_enter Tryd.func16, Tryd.ntmps16
      go_wp2_with fail
      refine hc.mono ?_
      rintro e w2 ⟨rfl, x1, x4⟩
      have hbx := x1.box
      have HR := HF.out w2 x1 x4
      clear x1 x4 hc
      go_wp2
      go_ret
      exact HR
  · rcases own_form h with ⟨hv, hn, hx⟩ | ⟨g, cap, hv, hgB, hgl, _⟩
    · exact absurd (List.length_eq_zero_iff.1 hn) hl0
    · subst hv
      have hE : (w.alloc (.cells #[] 24)).ownsRow w.heap.size 24 7 (.slice (some ⟨w.heap.size, 0, none⟩) 0 0) 0 [] := own_empty w
      have hnews : ∀ j u, (l.flatMap evC)[j]? = some u → w.cell? ⟨g, j, none⟩ = some u := fun j u hj => by
        have := h.cells (g := g) rfl j u hj
        rw [Addr.add_lit, Nat.zero_add] at this
        exact this
      have HN : Hid _ := hnews
      have HE : Hid _ := hE
      clear hnews hE
      go_enter Tryd.func16, Tryd.ntmps16
      go_wp2_with (first
        | (at_builtin; refine wpList_append_own _ rfl _ _ 22 rfl w.heap.size 24 i0 evZ 7 64 Tryd.underlying22 hi hz0 hz1 hz2 rfl (by decide) _ _ _ rfl HE.out ⟨g, 0, none⟩ l.length cap (l.flatMap evC) rfl ?d0 ?d1 ?d2 ?d3 ?d4 ?d5 ?_)
        | go_in)
      case d0 => have := flat_len evC 7 evC_len l; simpa using this
      case d1 => exact HN.out
      case d2 => exact fun u x _ hx => evC_one x u hx
      case d3 => unfold maxLen; omega
      case d4 => omega
      · intro v' w2 hown2 hgr _
        have hb2 : Below w.heap.size w w2 := ((Below.refl _ _).alloc (Nat.le_refl _) _).grown hgr (by simp) (fun k hk => by cases hk; exact Nat.le_refl _)
        rcases own_form hown2 with ⟨hv, hn, hx⟩ | ⟨g2, cap2, hv, hgB2, hgl2, _⟩
        · exact absurd (List.length_eq_zero_iff.1 hn) hl0
        · subst hv
          obtain ⟨W3, hW3⟩ : ∃ x, x = w2.alloc (.cells #[.slice (some ⟨g2, 0, none⟩) l.length cap2] 22) := ⟨_, rfl⟩
          have hb3 : Below w.heap.size w W3 := by rw [hW3]; exact hb2.alloc hb2.size _
          have hst : StE w.heap.size g2 w2.heap.size l.length cap2 W3 l.toArray := by
            refine ⟨by simp, ?_, ?_⟩
            · rw [hW3]; exact hown2.alloc _
            · rw [hW3]; simp
          have hc := sliceStable_stl hst (by omega) hl
          have HF : Hid (∀ w', StE w.heap.size g2 w2.heap.size l.length cap2 w' (stl l).toArray → W3.grownBy w' (some g2) → OrderedS l w (.returned (.slice (some ⟨g2, 0, none⟩) l.length cap2)) w') := fun w' x1 x4 => ordered_st hb3 hgB2 x1 x4
          clear hst hown2 hgr
          go_wp2_with fail
          rw [← hW3]
          refine hc.mono ?_
          rintro e w4 ⟨rfl, x1, x4⟩
          have hbx := x1.box
          have HR := HF.out w4 x1 x4
          clear x1 x4 hc
          go_wp2
          go_ret
          exact HR
end Go.Proofs.YtppamojkhkdfpaaDoor
