/- Postings that lie in a slice. -/
import Derived.Test.YtppamojkhkdfpaaDoorLedPost
import Derived.Test.YtppamojkhkdfpaaDoorRowMem
namespace Go.Proofs.YtppamojkhkdfpaaDoor
open Go.RowKit
/-- Postings that lie in a slice. -/
def PstsAt (w : World) (v : Value) (ps : List Pst) : Prop :=
  (v = .slice none 0 0 ∧ ps = []) ∨ ∃ g o cap, v = .slice (some ⟨g, o, none⟩) ps.length cap ∧ g < w.heap.size ∧ ∀ (k j : Nat) (hk : k < ps.length), j < 3 → w.cell? ⟨g, o + k * 3 + j, none⟩ = (pstC ps[k])[j]?
theorem PstsAt.below {w w' : World} {v : Value} {ps : List Pst} (h : PstsAt w v ps) (hb : Below w.heap.size w w') : PstsAt w' v ps := by
  rcases h with h | ⟨g, o, cap, e, hg, hc⟩
  · exact Or.inl h
  · exact Or.inr ⟨g, o, cap, e, Nat.lt_of_lt_of_le hg hb.size, fun k j hk hj => (hb.cell (p := ⟨g, o + k * 3 + j, none⟩) hg).trans (hc k j hk hj)⟩
theorem PstsAt.block {w : World} {v : Value} {ps : List Pst} (h : PstsAt w v ps) : ∀ k, v.ownBlock = some k → k < w.heap.size := by
  rcases h with ⟨rfl, _⟩ | ⟨g, o, cap, rfl, hg, _⟩
  · intro k hk; cases hk
  · intro k hk; simp [Value.ownBlock] at hk; omega
theorem PstsAt.same {w w' : World} {v : Value} {ps : List Pst} (h : PstsAt w v ps) (hs : w.heap.size ≤ w'.heap.size) (e : ∀ k, v.ownBlock = some k → w'.heap[k]? = w.heap[k]?) : PstsAt w' v ps := by
  rcases h with h | ⟨g, o, cap, rfl, hg, hc⟩
  · exact Or.inl h
  · exact Or.inr ⟨g, o, cap, rfl, by omega, fun k j hk hj => (World.cell?_of_block (a := ⟨g, o + k * 3 + j, none⟩) (e g rfl)).trans (hc k j hk hj)⟩
theorem PstsAt.of_own {w : World} {B : Nat} {v : Value} {ps : List Pst} (h : w.ownsRow B 52 3 v ps.length (ps.flatMap pstC)) : PstsAt w v ps := by
  rcases own_form h with ⟨hv, hn, _⟩ | ⟨g, cap, hv, _, hgl, _⟩
  · exact Or.inl ⟨hv, List.length_eq_zero_iff.1 hn⟩
  · subst hv
    exact Or.inr ⟨g, 0, cap, rfl, hgl, fun k j hk hj => by rw [Nat.zero_add]; exact (own_cell pstC_len h k j hk hj).1⟩
theorem below_cellL {w w' : World} {p : Addr} {v : Value} (hb : Below w.heap.size w w') (h : w.cell? p = some v) : w'.cell? p = some v := (hb.cell (World.block_lt_of_cell? _ _ h)).trans h
end Go.Proofs.YtppamojkhkdfpaaDoor
