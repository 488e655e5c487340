/- slices.Equal at events that are the same. -/
import Derived.Test.YtihkeblhidflpaaDoorBookAs
import Derived.Laws.StructEq
namespace Go.Proofs.YtihkeblhidflpaaDoor
open Go.RowKit
def eqE (x y : Ev) : Bool := (x.id == y.id) && ((x.item.toList == y.item.toList) && ((x.kind == y.kind) && ((x.qty == y.qty) && ((x.price == y.price) && ((x.ofI == y.ofI) && (x.day == y.day))))))
theorem eqE_refl (x : Ev) : eqE x x = true := by unfold eqE; simp
set_option maxHeartbeats 1000000 in
theorem neqE : NeqAt Tryd.prog 34 (fun x => .agg (evC x).toArray) eqE := by
  refine ⟨fun x y w => ?_, GuardAt.agg _ (by kernel_rfl)⟩
  have hS : Tryd.prog.underlying 34 = some (.struct (Tryd.prog.fieldsOf 34)) := by kernel_rfl
  have hp : Tryd.prog.stoodInHeld 34 = false := by kernel_rfl
  have u3 := Tryd.underlying3
  have a3 := Tryd.isAgg3
  have z3 := Tryd.sizeOf3
  have u9 := Tryd.underlying9
  have a9 := Tryd.isAgg9
  have z9 := Tryd.sizeOf9
  unfold eqE
  simp only [evC]
  rw [run_neq_struct, show (10000 : Nat) = 9999 + 1 from rfl, run_equalIn_agg w 9999 34 _ _ hS hp]
  simp only [Program.fieldsOf, Tryd.underlying34]
  go_simp
  by_cases h1 : x.id = y.id
  · by_cases h2 : x.item.toList = y.item.toList
    · by_cases h3 : x.kind = y.kind
      · by_cases h4 : x.qty = y.qty
        · by_cases h5 : x.price = y.price
          · by_cases h6 : x.ofI = y.ofI
            · by_cases h7 : x.day = y.day <;> simp [h1, h2, h3, h4, h5, h6, h7]
            · simp [h1, h2, h3, h4, h5, h6]
          · simp [h1, h2, h3, h4, h5]
        · simp [h1, h2, h3, h4]
      · simp [h1, h2, h3]
    · simp [h1, h2]
  · simp [h1]
theorem allEq_same : ∀ l : List Ev, Lib.allEq eqE l l = true
  | [] => rfl
  | x :: l => by simp [Lib.allEq, eqE_refl, allEq_same l]
set_option maxHeartbeats 1000000 in
theorem eq_none (a b : Option Addr) (c d : Nat) (w : World) :
    Calls Tryd.prog 10 #[.slice a 0 c, .slice b 0 d] w fun e w' => e = .returned (.bool true) ∧ w' = w := by
  go_enter Tryd.func10, Tryd.ntmps10
  go_wp2
  refine wp_loop_rounds 1 ?_
  rw [rounds_succ]
  go_wp2
  go_ret
  exact ⟨rfl, rfl⟩
/-- Two slices of the same events are equal. -/
theorem eq_same {B1 B2 : Nat} {v1 v2 : Value} {l : List Ev} {w : World} (h1 : w.ownsRow B1 34 7 v1 l.length (l.flatMap evC)) (h2 : w.ownsRow B2 34 7 v2 l.length (l.flatMap evC)) :
    Calls Tryd.prog 10 #[v1, v2] w fun e w' => e = .returned (.bool true) ∧ Below w.heap.size w w' := by
  by_cases hl : l.length = 0
  · obtain ⟨a1, c1, e1⟩ := own_len h1
    obtain ⟨a2, c2, e2⟩ := own_len h2
    rw [e1, e2, hl]
    exact (eq_none a1 a2 c1 c2 w).mono fun _ _ ⟨he, hw⟩ => ⟨he, by rw [hw]; exact Below.refl _ _⟩
  · rcases own_form h1 with ⟨_, hn, _⟩ | ⟨g1, cap1, e1, _, _, hc1, hm1⟩
    · exact absurd hn hl
    · rcases own_form h2 with ⟨_, hn, _⟩ | ⟨g2, cap2, e2, _, _, _, _⟩
      · exact absurd hn hl
      · subst e1 e2
        have hmx : l.length ≤ 9223372036854775807 := by unfold maxLen at hm1; omega
        have cell : ∀ (g cap B : Nat), w.ownsRow B 34 7 (.slice (some ⟨g, 0, none⟩) l.length cap) l.length (l.flatMap evC) → ∀ j, j < l.length → ∀ i v, (evC l[j]!)[i]? = some v → w.cell? ⟨g, 0 + j * 7 + i, none⟩ = some v := fun g cap B h j hj i v hi => by
          have hi7 : i < 7 := by
            have := (List.getElem?_eq_some_iff.1 hi).1
            rw [evC_len] at this; exact this
          rw [Nat.zero_add, (own_cell evC_len h j i hj hi7).1, ← hi, getElem!_pos l j hj]
        have hcon := AnyQ.slices_Equal Tryd.eqF 7 Tryd.isAgg34 Tryd.sizeOf34 evC evC_len eqE neqE g1 0 l.length cap1 g2 0 l.length cap2 l l w (Nat.le_refl _) (Nat.le_refl _) hmx hmx (cell g1 cap1 B1 h1) (cell g2 cap2 B2 h2)
        rw [List.take_length, allEq_same] at hcon
        have hcon' : Calls Tryd.prog 10 #[.slice (some ⟨g1, 0, none⟩) l.length cap1, .slice (some ⟨g2, 0, none⟩) l.length cap2] w _ := hcon
        refine hcon'.mono ?_
        rintro e w' ⟨he, q, rfl⟩
        exact ⟨he, ⟨rfl, rfl, rfl, Nat.le_refl _, fun _ _ => rfl⟩⟩
end Go.Proofs.YtihkeblhidflpaaDoor
