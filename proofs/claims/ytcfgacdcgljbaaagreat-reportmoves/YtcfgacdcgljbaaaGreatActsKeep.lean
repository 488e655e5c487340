/- A list of deeds of package tallymankeep that was handed in, opened. -/
import Derived.Test.YtcfgacdcgljbaaaGreatBnR
namespace Go.Proofs.YtcfgacdcgljbaaaGreat
open Go.ChangeShapes Go.WideShapes Go.RowKit Go.Deep Go.WideElems Go.Maps Go.Joins
section
variable {H : Type} {enc : TypeId × Value → H} {w : World} {base : Nat} {spare : Nat → Bool} {held : Bool}
theorem ac_cellsK : Tryz.prog.cellsOf 48 = 9 := by kernel_rfl
set_option maxRecDepth 100000 in
theorem ac_of_cellsK {fuel : Nat} {cs : List Value} {x : DataW H × List MemPlace} (h : DataW.trod enc Tryz.prog w base spare held fuel 48 cs = some x) : ∃ a : Ac, cs = acC a ∧ EvW a.e := by
  obtain ⟨v0, v1, r, y0, y1, y2, n, rfl, g0, g1, g2⟩ := cells_act Tryz.underlying48 ac_cellsK rfl rfl rfl int_cells int_cells ev_cells h
  obtain ⟨a0, e0, _, w0⟩ := DataW.trod_int Tryz.underlying3 g0
  obtain ⟨a1, e1, _, w1⟩ := DataW.trod_int Tryz.underlying3 g1
  obtain ⟨e, he, hw⟩ := ev_of_cells g2
  simp only [List.cons.injEq, and_true] at e0 e1
  subst e0 e1
  exact ⟨⟨a0, a1, e⟩, by rw [he]; rfl, hw⟩
theorem open_actsK {fuel : Nat} {cs : List Value} {x : DataW H × List MemPlace} (h : DataW.trod enc Tryz.prog w 0 spare held fuel 22 cs = some x) :
    ∃ (ao : Option Addr) (cap : Nat) (l : List Ac), cs = [.slice ao l.length cap] ∧ ActsAt w ao l ∧ l.length ≤ maxLen := by
  rcases open_slice Tryz.underlying22 h with ⟨hcs, _⟩ | ⟨a, len, cap, m, n, D, Pl, hcs, _, hl, hm, hmm, _, hel⟩
  · exact ⟨none, 0, [], hcs, ⟨fun x hx => (by cases hx), fun hp => absurd hp (Nat.lt_irrefl _)⟩, Nat.zero_le _⟩
  · have hlm : len ≤ m := by rw [hmm]; split <;> omega
    have h1 : ∀ i, i < len → ∃ a' : Ac, w.cells? 0 (a.add (i * Tryz.prog.cellsOf 48)) (Tryz.prog.cellsOf 48) = some (acC a') ∧ EvW a'.e := fun i hi => by
      obtain ⟨cs', h1, h2⟩ := hel i (by omega)
      obtain ⟨a', he, hw⟩ := ac_of_cellsK h2
      exact ⟨a', by rw [h1, he], hw⟩
    obtain ⟨f, hf⟩ := choose_lt h1
    have hlen : ((List.range len).map f).length = len := by simp
    refine ⟨some a, cap, (List.range len).map f, by rw [hlen]; exact hcs, ⟨fun x hx => ?_, fun hp => ?_⟩, by rw [hlen]; omega⟩
    · obtain ⟨i, hi, rfl⟩ := List.mem_map.1 hx
      exact (hf i (by simpa using hi)).2
    · rw [hlen] at hp
      have cell : ∀ i, i < len → ∀ j, j < 9 → w.cell? ((a.add (i * 9)).add j) = (acC (f i))[j]? := fun i hi j hj => by
        have hc := (hf i hi).1
        rw [ac_cellsK] at hc
        unfold World.cells? at hc
        rw [if_pos (Nat.zero_le _)] at hc
        have := mapM_at hc j (by simpa using hj)
        simpa using this
      have hs : a.spot = none := by
        have := cell 0 hp 0 (by decide)
        cases hsp : a.spot with
        | none => rfl
        | some s =>
          simp [World.cell?, Addr.add, hsp, acC] at this
          split at this <;> simp at this
      obtain ⟨b, off, sp⟩ := a
      simp only at hs
      subst hs
      have hb : b < w.heap.size := by
        have := cell 0 hp 0 (by decide)
        simp only [acC, List.getElem?_cons_zero, Addr.add_lit] at this
        exact World.block_lt_of_cell? _ _ this
      refine ⟨b, off, rfl, hb, fun k hk j hj => ?_⟩
      have := cell k (by rw [hlen] at hk; exact hk) j hj
      rw [Addr.add_lit, Addr.add_lit] at this
      rw [this]
      simp
end
end Go.Proofs.YtcfgacdcgljbaaaGreat
