/- A list of postings that was handed in, opened. -/
import Derived.Test.YtcfgacdcgljbaaaGreatDoorBnG
import Derived.Test.YtcfgacdcgljbaaaGreatDoorFigOpen
import Derived.Deep.Slices
namespace Go.Proofs.YtcfgacdcgljbaaaGreatDoor
open Go.ChangeShapes Go.WideShapes Go.RowKit Go.Deep Go.WideElems Go.Maps Go.Joins
structure PstW (p : Pst) : Prop where
  deb : p.deb.size ≤ maxLen
  cre : p.cre.size ≤ maxLen
  amt : I64 p.amt
theorem list3 {α : Type} {l : List α} (h : l.length = 3) : ∃ c0 c1 c2, l = [c0, c1, c2] := by
  match l, h with
  | [c0, c1, c2], _ => exact ⟨c0, c1, c2, rfl⟩
section
variable {H : Type} {enc : TypeId × Value → H} {w : World} {base : Nat} {spare : Nat → Bool} {held : Bool}
theorem cells_agg3 {P : Program} {t : TypeId} {fuel : Nat} {f0 f1 f2 : Field} {cs : List Value} {x : DataW H × List MemPlace} (hs : P.underlying t = some (.struct #[f0, f1, f2])) (hone : oneCellFields P #[f0, f1, f2] = true) (hC : P.cellsOf t = 3)
    (h : DataW.trod enc P w base spare held fuel t cs = some x) :
    ∃ (v0 v1 v2 : Value) (y0 y1 y2 : DataW H × List MemPlace) (n : Nat), cs = [v0, v1, v2] ∧
      DataW.trod enc P w base spare held n f0.type [v0] = some y0 ∧ DataW.trod enc P w base spare held n f1.type [v1] = some y1 ∧ DataW.trod enc P w base spare held n f2.type [v2] = some y2 := by
  obtain ⟨xs, n, _, _, hlen, hxl, hfs⟩ := DataW.trod_struct hs h
  obtain ⟨c0, c1, c2, rfl⟩ := list3 (hlen.trans hC)
  obtain ⟨y0, y1, y2, rfl⟩ := list3 (hxl.trans rfl)
  have g0 := hfs 0 f0 rfl
  have g1 := hfs 1 f1 rfl
  have g2 := hfs 2 f2 rfl
  obtain ⟨o0, k0⟩ := hone_of hone 0 f0 rfl
  obtain ⟨o1, k1⟩ := hone_of hone 1 f1 rfl
  obtain ⟨o2, k2⟩ := hone_of hone 2 f2 rfl
  rw [o0, k0] at g0
  rw [o1, k1] at g1
  rw [o2, k2] at g2
  exact ⟨c0, c1, c2, y0, y1, y2, n, rfl, g0, g1, g2⟩
theorem pst_cells : Tryz.prog.cellsOf 75 = 3 := by kernel_rfl
set_option maxRecDepth 100000 in
theorem pst_of_cells {fuel : Nat} {cs : List Value} {x : DataW H × List MemPlace} (h : DataW.trod enc Tryz.prog w base spare held fuel 75 cs = some x) : ∃ p : Pst, cs = pstC p ∧ PstW p := by
  obtain ⟨v0, v1, v2, y0, y1, y2, n, rfl, h0, h1, h2⟩ := cells_agg3 Tryz.underlying75 (by kernel_rfl) pst_cells h
  obtain ⟨a0, e0, _, w0⟩ := DataW.trod_string Tryz.underlying9 h0
  obtain ⟨a1, e1, _, w1⟩ := DataW.trod_string Tryz.underlying9 h1
  obtain ⟨a2, e2, _, w2⟩ := DataW.trod_int Tryz.underlying3 h2
  simp only [List.cons.injEq, and_true] at e0 e1 e2
  subst e0 e1 e2
  exact ⟨⟨a0, a1, a2⟩, rfl, ⟨w0, w1, wf_i64 w2⟩⟩
theorem mapM_atP {α β : Type} {f : α → Option β} : ∀ {l : List α} {r : List β}, l.mapM f = some r → ∀ j (hj : j < l.length), f l[j] = r[j]?
  | [], _, _, j, hj => absurd hj (Nat.not_lt_zero _)
  | a :: l, r, h, j, hj => by
    rw [List.mapM_cons] at h
    cases ha : f a with
    | none => rw [ha] at h; cases h
    | some b =>
      rw [ha] at h
      cases hl : l.mapM f with
      | none => rw [hl] at h; cases h
      | some r' =>
        rw [hl] at h
        have e : r = b :: r' := (Option.some.inj h).symm
        subst e
        cases j with
        | zero => simpa using ha
        | succ j => simpa using mapM_atP hl j (by simpa using hj)
theorem okWide_at {P : Program} {W : World} {r : Reach} {b0 : Nat} {t e : TypeId} {a : Addr} {len cap : Nat} (ht : P.underlying t = some (.slice e)) (h : Value.okWide P W r b0 t (.slice (some a) len cap)) : a.spot = none ∧ a.block < W.heap.size := by
  simp only [Value.okWide, ht, Cell.okWide, Cell.ok] at h
  obtain ⟨_, _, _, hs, row, cells, hsh, _⟩ := h
  refine ⟨hs, ?_⟩
  unfold World.shape? at hsh
  rcases Nat.lt_or_ge a.block W.heap.size with hlt | hge
  · exact hlt
  · simp [Array.getElem?_eq_none hge] at hsh
set_option maxRecDepth 100000 in
theorem open_psts {r : Reach} {b0 fuel : Nat} {v : Value} {x : DataW H × List MemPlace} (hv : Value.okWide Tryz.prog w r b0 73 v) (h : DataW.trod enc Tryz.prog w 0 spare held fuel 73 [v] = some x) :
    ∃ ps : List Pst, PstsAt w v ps ∧ (∀ p ∈ ps, PstW p) ∧ ps.length ≤ maxLen := by
  rcases open_slice Tryz.underlying73 h with ⟨hcs, _⟩ | ⟨a, len, cap, m, n, D, Pl, hcs, _, hl, hm, hmm, _, hel⟩
  · simp only [List.cons.injEq, and_true] at hcs
    exact ⟨[], .inl ⟨hcs, rfl⟩, fun x hx => (by cases hx), Nat.zero_le _⟩
  · simp only [List.cons.injEq, and_true] at hcs
    subst hcs
    obtain ⟨hsp, hbl⟩ := okWide_at Tryz.underlying73 hv
    obtain ⟨b, off, sp⟩ := a
    simp only at hsp hbl
    subst hsp
    have hlm : len ≤ m := by rw [hmm]; split <;> omega
    have h1 : ∀ i, i < len → ∃ a' : Pst, w.cells? 0 ((⟨b, off, none⟩ : Addr).add (i * Tryz.prog.cellsOf 75)) (Tryz.prog.cellsOf 75) = some (pstC a') ∧ PstW a' := fun i hi => by
      obtain ⟨cs', h1, h2⟩ := hel i (by omega)
      obtain ⟨a', he, hw⟩ := pst_of_cells h2
      exact ⟨a', by rw [h1, he], hw⟩
    obtain ⟨f, hf⟩ := choose_lt h1
    have hlen : ((List.range len).map f).length = len := by simp
    refine ⟨(List.range len).map f, .inr ⟨b, off, cap, by rw [hlen], hbl, fun k j hk hj => ?_⟩, fun x hx => ?_, by rw [hlen]; omega⟩
    · rw [hlen] at hk
      have hc := (hf k hk).1
      rw [pst_cells] at hc
      unfold World.cells? at hc
      rw [if_pos (Nat.zero_le _)] at hc
      have := mapM_atP hc j (by simpa using hj)
      simp only [List.getElem_range, Addr.add_lit] at this
      rw [this]
      simp
    · obtain ⟨i, hi, rfl⟩ := List.mem_map.1 hx
      exact (hf i (by simpa using hi)).2
end
end Go.Proofs.YtcfgacdcgljbaaaGreatDoor
