/- Events that a slice holds. How an event lies in memory. -/
import Derived.Test.YtcfgacdcgljbaaaGreatBnD
namespace Go.Proofs.YtcfgacdcgljbaaaGreat
open Go.RowKit
/-- The slice v holds these events. -/
def EvsAt (w : World) (v : Value) (l : List Ev) : Prop :=
  (v = .slice none 0 0 ∧ l = []) ∨ ∃ g o cap, v = .slice (some ⟨g, o, none⟩) l.length cap ∧ g < w.heap.size ∧ ∀ k j (hk : k < l.length), j < 7 → w.cell? ⟨g, o + k * 7 + j, none⟩ = (evC l[k])[j]?
theorem EvsAt.below {w w' : World} {v : Value} {l : List Ev} (h : EvsAt w v l) (hb : Below w.heap.size w w') : EvsAt w' v l := by
  rcases h with h | ⟨g, o, cap, rfl, hg, hc⟩
  · exact Or.inl h
  · exact Or.inr ⟨g, o, cap, rfl, Nat.lt_of_lt_of_le hg hb.size, fun k j hk hj => (hb.cell (p := ⟨g, o + k * 7 + j, none⟩) hg).trans (hc k j hk hj)⟩
theorem EvsAt.of_own {w : World} {B : Nat} {v : Value} {l : List Ev} (h : w.ownsRow B 36 7 v l.length (l.flatMap evC)) : EvsAt w v l := by
  rcases own_form h with ⟨hv, hn, _⟩ | ⟨g, cap, hv, _, hgl, _⟩
  · exact Or.inl ⟨hv, List.length_eq_zero_iff.1 hn⟩
  · subst hv
    exact Or.inr ⟨g, 0, cap, rfl, hgl, fun k j hk hj => by rw [Nat.zero_add]; exact (own_cell evC_len h k j hk hj).1⟩
noncomputable def rtB (e : Ev) : Bool := @decide (Rt e) (Classical.propDecidable _)
theorem rtB_iff (e : Ev) : rtB e = true ↔ Rt e := by unfold rtB; simp
/-- Events lie behind an address, if there are any. -/
def EvsC (w : World) (ao : Option Addr) (l : List Ev) : Prop := 0 < l.length → ∃ b off, ao = some ⟨b, off, none⟩ ∧ b < w.heap.size ∧ ∀ k (hk : k < l.length) j, j < 7 → w.cell? ⟨b, off + k * 7 + j, none⟩ = (evC l[k])[j]?
theorem EvsC.below {w w' : World} {ao : Option Addr} {l : List Ev} (h : EvsC w ao l) (hb : Below w.heap.size w w') : EvsC w' ao l := fun hp => by
  obtain ⟨b, off, e, hlt, hc⟩ := h hp
  exact ⟨b, off, e, Nat.lt_of_lt_of_le hlt hb.size, fun k hk j hj => (hb.cell (p := ⟨b, off + k * 7 + j, none⟩) hlt).trans (hc k hk j hj)⟩
theorem EvsAt.toC {w : World} {v : Value} {l : List Ev} (h : EvsAt w v l) : ∃ ao cap, v = .slice ao l.length cap ∧ EvsC w ao l := by
  rcases h with ⟨rfl, rfl⟩ | ⟨g, o, cap, rfl, hg, hc⟩
  · exact ⟨none, 0, rfl, fun h => absurd h (Nat.lt_irrefl _)⟩
  · exact ⟨_, cap, rfl, fun _ => ⟨g, o, rfl, hg, fun k hk j hj => hc k j hk hj⟩⟩
end Go.Proofs.YtcfgacdcgljbaaaGreat
namespace Go.Proofs.YtcfgacdcgljbaaaGreat
open Go.RowKit
def evZ : Value := .agg #[.int .i64 0, .string ⟨#[]⟩, .int .i64 0, .int .i64 0, .int .i64 0, .int .i64 0, .int .i64 0]
theorem Tryz.infoEv : (Tryz.prog.info? 36).map (fun i => (i.zero, i.size, i.bytes)) = some (some evZ, 7, 64) := by kernel_rfl
end Go.Proofs.YtcfgacdcgljbaaaGreat
