/- slices.SortStableFunc at a slice of events that owns its row: the stable row. -/
import Derived.Test.YtmldaiofghpfdaaCsStable
import Derived.Test.YtmldaiofghpfdaaTurnMem
namespace Go.Proofs.Ytmldaiofghpfdaa
open Go.RowKit
open Go.Sort hiding Below
open Go.Shelf Go.Lib
theorem zip_flat (l : List Ev) : l.zipIdx.flatMap encP = l.flatMap evC := by
  have e : l.zipIdx.flatMap encP = (l.zipIdx.map Prod.fst).flatMap evC := by rw [List.flatMap_map]; rfl
  rw [e, List.zipIdx_map_fst]
theorem map_flat (l : List EvN) : l.flatMap encP = (l.map (·.1)).flatMap evC := by rw [List.flatMap_map]; rfl
set_option maxHeartbeats 1000000 in
theorem sorts_none (g : Nat) (w : World) :
    Calls Try.prog 23 #[.slice none 0 0, .func (.func g) #[] #[]] w fun e w' => e = .returned (.tuple #[]) ∧ Below w.heap.size w w' := by
  have hi : ∀ W, Calls Try.prog 39 #[.slice none 0 0, .int .i64 0, .int .i64 0, .func (.func g) #[] #[]] W fun e w' => e = .returned (.tuple #[]) ∧ Below W.heap.size W w' := fun W => by
    go_enter Try.func39, Try.ntmps39
    go_wp2
    refine wp_loop_rounds 1 ?_
    rw [rounds_succ]
    go_wp2
    go_end0
    exact ⟨rfl, Below.refl _ _⟩
  have hs : ∀ W, Calls Try.prog 33 #[.slice none 0 0, .int .i64 0, .func (.func g) #[] #[]] W fun e w' => e = .returned (.tuple #[]) ∧ Below W.heap.size W w' := fun W => by
    go_enter Try.func33, Try.ntmps33
    go_wp2
    refine wp_loop_rounds 1 ?_
    rw [rounds_succ]
    go_wp2_with fail
    refine (hi _).mono ?_
    rintro e w1 ⟨rfl, hb⟩
    go_wp2
    refine wp_loop_rounds 1 ?_
    rw [rounds_succ]
    go_wp2
    go_end0
    exact ⟨rfl, hb⟩
  go_enter Try.func23, Try.ntmps23
  go_wp2_with fail
  refine (hs _).mono ?_
  rintro e w1 ⟨rfl, hb⟩
  go_wp2
  go_end0
  exact ⟨rfl, hb⟩
set_option maxHeartbeats 1000000 in
theorem sortS_any {B : Nat} {v : Value} {l : List Ev} {w : World} (h : w.ownsRow B 36 7 v l.length (l.flatMap evC)) (hl : l.length ≤ 1000000) :
    Calls Try.prog 23 #[v, .func (.func 24) #[] #[]] w fun e w' => e = .returned (.tuple #[]) ∧ w'.ownsRow B 36 7 v (stl l).length ((stl l).flatMap evC) ∧ w.grownBy w' v.ownBlock := by
  rcases own_form h with ⟨hv, hn, hx⟩ | ⟨g, cap, hv, hgB, hgl, _⟩
  · subst hv
    have hz : l = [] := List.length_eq_zero_iff.1 hn
    subst hz
    have hsr : stl [] = [] := List.length_eq_zero_iff.1 (by rw [stl_len]; rfl)
    refine (sorts_none _ w).mono fun e w' ⟨he, hb⟩ => ⟨he, ?_, ⟨hb.os, hb.tape, hb.output, hb.size, fun k hk _ => hb.block k hk⟩⟩
    rw [hsr]
    exact World.ownsRow_nil _ _ _ _
  · subst hv
    have hH : HoldsK encP 7 w g 0 l.zipIdx.toArray := holdsK_of_own (T := 36) (B := B) (n := l.length) (cap := cap) encP_len (by rw [zip_flat]; exact h)
    have hz : l.zipIdx.toArray.size = l.length := by simp
    have h0 : Cs0 w g 0 l.length := ⟨⟨_, hz, hH⟩, hgl⟩
    have h1 : Cs w g 0 l.length w l.zipIdx.toArray := ⟨hz, 0, #[], by unfold sortWorldK; rw [grow_empty]; exact (putRowK_self encP 7 w g 0 _ hH).symm⟩
    have hst := cs_stable h0 (enters_of Try.func24 (by kernel_rfl) rfl) cmpG_compare cap hl l.zipIdx.toArray w h1 (fun s t a b => by
      rw [getElem!_pos _ s (by simp; omega), getElem!_pos _ t (by simpa using b)]
      simpa using a)
    have fin : ∀ e w', MergesC w g 0 l.length 0 l.length l.zipIdx.toArray e w' → e = .returned (.tuple #[]) ∧ w'.ownsRow B 36 7 (.slice (some ⟨g, 0, none⟩) l.length cap) (stl l).length ((stl l).flatMap evC) ∧ w.grownBy w' (Value.ownBlock (.slice (some ⟨g, 0, none⟩) l.length cap)) := fun e w' ⟨he, d', hc, hs, hp⟩ => by
      have hs' : d'.size = l.length := hc.size
      obtain ⟨_, m, os, hw⟩ := hc
      have e1 := stl_of (l := l) (ps := d'.toList) (by have := permP (d := l.zipIdx.toArray) (d' := d') (by simpa using hp); simpa using this) (sortP (by rw [hs']; exact hs))
      refine ⟨he, ?_, ?_⟩
      · rw [stl_len, ← e1, ← map_flat, hw]
        have := own_sorted (q := m) (os := os) (l' := d'.toList) (l := l.zipIdx) encP_len (by rw [zip_flat]; exact h) (by simp [hs'])
        rw [Array.toArray_toList] at this
        exact this
      · rw [hw]
        exact grown_sorted _
    have HST : Hid _ := fin
    clear fin
    go_enter Try.func23, Try.ntmps23
    go_wp2_with fail
    refine hst.mono ?_
    rintro e w' hm
    have hf := HST.out e w' hm
    obtain ⟨rfl, h2, h3⟩ := hf
    clear hm
    go_wp2
    go_end0
    exact ⟨rfl, h2, h3⟩
end Go.Proofs.Ytmldaiofghpfdaa
