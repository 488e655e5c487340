/- Lists of texts in memory; a list of texts that was handed in. -/
import Derived.Test.YtfppcecjpaefdaaDoorJrRead
import Derived.SliceStrings
namespace Go.Proofs.YtfppcecjpaefdaaDoor
open Go.RowKit Go.ChangeShapes Go.WideShapes
/-- The cells of a list of texts. -/
def StrsC (w : World) (ao : Option Addr) (l : List (List UInt8)) : Prop := 0 < l.length → ∃ b off, ao = some ⟨b, off, none⟩ ∧ b < w.heap.size ∧ ∀ k (hk : k < l.length), w.cell? ⟨b, off + k, none⟩ = some (encS l[k])
theorem StrsC.below {w w' : World} {ao : Option Addr} {l : List (List UInt8)} (h : StrsC w ao l) (hb : Below w.heap.size w w') : StrsC w' ao l := fun hp => by
  obtain ⟨b, off, e, hlt, hc⟩ := h hp
  exact ⟨b, off, e, Nat.lt_of_lt_of_le hlt hb.size, fun k hk => (hb.cell (p := ⟨b, off + k, none⟩) hlt).trans (hc k hk)⟩
theorem StrsC.take {w : World} {ao : Option Addr} {l : List (List UInt8)} (h : StrsC w ao l) (n : Nat) : StrsC w ao (l.take n) := fun hp => by
  have hl : (l.take n).length ≤ l.length := by rw [List.length_take]; omega
  obtain ⟨b, off, e, hlt, hc⟩ := h (by omega)
  exact ⟨b, off, e, hlt, fun k hk => by rw [hc k (by omega), List.getElem_take]⟩
theorem strs_of_own {w : World} {B : Nat} {v : Value} {l : List (List UInt8)} (h : w.ownsRow B 9 1 v l.length (l.map encS)) : ∃ ao cap, v = .slice ao l.length cap ∧ l.length ≤ cap ∧ StrsC w ao l := by
  rcases own_form h with ⟨hv, hn, _⟩ | ⟨g, cap, hv, _, hg, hc, _⟩
  · exact ⟨none, 0, by rw [hv, hn], by omega, fun hp => by omega⟩
  · subst hv
    refine ⟨_, cap, rfl, hc, fun _ => ⟨g, 0, rfl, hg, fun k hk => ?_⟩⟩
    have := h.cellAt k (by omega)
    rw [Nat.zero_add, this, List.getElem?_map, List.getElem?_eq_getElem hk]
    rfl
section
variable {H : Type} {enc : TypeId × Value → H} {w : World} {spare : Nat → Bool} {held : Bool}
theorem open_strs {fuel : Nat} {cs : List Value} {x : DataW H × List MemPlace} (h : DataW.trod enc Tryd.prog w 0 spare held fuel 32 cs = some x) :
    ∃ (ao : Option Addr) (cap : Nat) (l : List (List UInt8)), cs = [.slice ao l.length cap] ∧ (∀ t ∈ l, t.length ≤ maxLen) ∧ StrsC w ao l ∧ l.length ≤ cap ∧ cap ≤ maxLen := by
  rcases open_strings Tryd.underlying32 Tryd.underlying9 (by kernel_rfl) h with ⟨hcs, _⟩ | ⟨a, len, cap, ss, hcs, _, hl, hm, hn, _, hcell, hsz⟩
  · exact ⟨none, 0, [], hcs, fun x hx => (by cases hx), fun hp => absurd hp (Nat.lt_irrefl _), Nat.zero_le _, Nat.zero_le _⟩
  · have hlm : len ≤ ss.length := by rw [hn]; split <;> omega
    have hlen : ((ss.take len).map fun s => s.data.toList).length = len := by rw [List.length_map, List.length_take]; omega
    refine ⟨some a, cap, (ss.take len).map fun s => s.data.toList, by rw [hlen]; exact hcs, fun t ht => ?_, fun hp => ?_, by rw [hlen]; exact hl, hm⟩
    · obtain ⟨s, hs, rfl⟩ := List.mem_map.1 ht
      rw [size_data]
      exact hsz s (List.mem_of_mem_take hs)
    · rw [hlen] at hp
      have c0 := hcell 0 (by omega)
      have hs : a.spot = none := by
        cases hsp : a.spot with
        | none => rfl
        | some s =>
          simp [World.cell?, Addr.add, hsp] at c0
          split at c0 <;> simp at c0
      obtain ⟨b, off, sp⟩ := a
      simp only at hs
      subst hs
      have hb : b < w.heap.size := World.block_lt_of_cell? _ _ c0
      refine ⟨b, off, rfl, hb, fun k hk => ?_⟩
      rw [hlen] at hk
      have := hcell k (by omega)
      rw [Addr.add_lit] at this
      rw [this, List.getD_eq_getElem?_getD, List.getElem?_eq_getElem (by omega)]
      simp only [Option.getD_some, encS, List.getElem_map, List.getElem_take, ba_of]
end
end Go.Proofs.YtfppcecjpaefdaaDoor
