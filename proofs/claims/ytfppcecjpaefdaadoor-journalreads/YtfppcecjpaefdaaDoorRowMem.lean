/- Rows that slices own, cell by cell. -/
import Derived.Test.YtfppcecjpaefdaaDoorBase
namespace Go.Proofs.YtfppcecjpaefdaaDoor
open Go.RowKit
/-- Rows of parts of one length, laid flat. -/
theorem flat_len {α : Type} (f : α → List Value) (m : Nat) (hf : ∀ x, (f x).length = m) : ∀ l : List α, (l.flatMap f).length = l.length * m
  | [] => by simp
  | x :: l => by simp only [List.flatMap_cons, List.length_append, hf, flat_len f m hf l, List.length_cons]; rw [Nat.add_mul, Nat.one_mul, Nat.add_comm]
theorem flat_get {α : Type} (f : α → List Value) (m : Nat) (hf : ∀ x, (f x).length = m) : ∀ (l : List α) (k j : Nat) (hk : k < l.length), j < m → (l.flatMap f)[k * m + j]? = (f l[k])[j]?
  | [], k, j, hk, _ => absurd hk (Nat.not_lt_zero _)
  | x :: l, 0, j, _, hj => by
    rw [List.flatMap_cons, Nat.zero_mul, Nat.zero_add, List.getElem?_append_left (by rw [hf]; exact hj)]; rfl
  | x :: l, k + 1, j, hk, hj => by
    have e : (k + 1) * m + j = m + (k * m + j) := by rw [Nat.add_mul, Nat.one_mul]; omega
    rw [List.flatMap_cons, e, List.getElem?_append_right (by rw [hf]; omega), hf, Nat.add_sub_cancel_left]
    exact flat_get f m hf l k j (by simpa using hk) hj
/-- A cell of a row that a slice owns. -/
theorem own_cell {α : Type} {w : World} {B : Nat} {T : TypeId} {m g n cap : Nat} {f : α → List Value} {l : List α} (hf : ∀ x, (f x).length = m) (h : w.ownsRow B T m (.slice (some ⟨g, 0, none⟩) n cap) n (l.flatMap f)) (k j : Nat) (hk : k < l.length) (hj : j < m) :
    w.cell? ⟨g, k * m + j, none⟩ = (f l[k])[j]? ∧ w.frozen? ⟨g, k * m + j, none⟩ = false := by
  have hl := h.1
  rw [flat_len f m hf] at hl
  rcases h.2 with ⟨hv, _⟩ | ⟨g', cap', cur, hv, _, hg, hn, _, hs, ht⟩
  · cases hv
  · cases hv
    have hlt : k * m + j < (l.flatMap f).length := by
      rw [flat_len f m hf]
      have := Nat.mul_le_mul_right m (show k + 1 ≤ l.length from hk)
      rw [Nat.add_mul, Nat.one_mul] at this
      omega
    have hc : cur[k * m + j]? = (l.flatMap f)[k * m + j]? := by
      rw [← ht, List.getElem?_take_of_lt (by rw [← hl, ← flat_len f m hf]; exact hlt), Array.getElem?_toList]
    refine ⟨?_, ?_⟩
    · simp only [World.cell?, hg]
      rw [show (Option.isSome (none : Option _)) = false from rfl]
      simp only [Bool.false_eq_true, if_false]
      rw [hc, flat_get f m hf l k j hk hj]
    · simp [World.frozen?, hg]
theorem own_count {α : Type} {w : World} {B : Nat} {T : TypeId} {m n : Nat} {v : Value} {f : α → List Value} {l : List α} (hf : ∀ x, (f x).length = m) (hm : 0 < m) (h : w.ownsRow B T m v n (l.flatMap f)) : n = l.length := by
  have hl := h.1
  rw [flat_len f m hf] at hl
  exact (Nat.eq_of_mul_eq_mul_right hm hl).symm
/-- How a slice that owns its row is told. -/
theorem own_form {w : World} {B : Nat} {T : TypeId} {m n : Nat} {v : Value} {xs : List Value} (h : w.ownsRow B T m v n xs) :
    (v = .slice none 0 0 ∧ n = 0 ∧ xs = []) ∨ ∃ g cap, v = .slice (some ⟨g, 0, none⟩) n cap ∧ B ≤ g ∧ g < w.heap.size ∧ n ≤ cap ∧ cap ≤ maxLen := by
  rcases h.2 with ⟨hv, hn⟩ | ⟨g, cap, cur, hv, hB, hg, hn, hm, hs, ht⟩
  · refine Or.inl ⟨hv, hn, ?_⟩
    have := h.1
    rw [hn, Nat.zero_mul] at this
    exact List.length_eq_zero_iff.1 this
  · exact Or.inr ⟨g, cap, hv, hB, (Array.getElem?_eq_some_iff.1 hg).1, hn, hm⟩
theorem own_below {w w' : World} {B b : Nat} {T : TypeId} {m n : Nat} {v : Value} {xs : List Value} (h : w.ownsRow b T m v n xs) (hb : Below w.heap.size w w') (hB : B ≤ b) : w'.ownsRow B T m v n xs := by
  refine ⟨h.1, ?_⟩
  rcases h.2 with hn | ⟨g, cap, cur, hv, hBg, hg, rest⟩
  · exact Or.inl hn
  · refine Or.inr ⟨g, cap, cur, hv, Nat.le_trans hB hBg, ?_, rest⟩
    rw [hb.block g (Array.getElem?_eq_some_iff.1 hg).1]; exact hg
theorem cells_of_list {w : World} {b : Nat} {cs : List Value} {T : TypeId} (hb : b = w.heap.size) : ∀ j u, cs[j]? = some u → (w.alloc (.cells cs.toArray T)).cell? ((⟨b, 0, none⟩ : Addr).add j) = some u := by
  intro j u hj
  subst hb
  rw [Addr.add_lit, Nat.zero_add, World.cell?_alloc_at _ _ _ _ (by rfl)]
  simpa using hj
end Go.Proofs.YtfppcecjpaefdaaDoor
