/- What tallymanref.Fine holds: the row's condition made into cells. -/
import Derived.Test.YtcfgacdcgljbaaaGreatDoorRlPars
import Derived.Test.YtcfgacdcgljbaaaGreatDoorLedGlob
import Derived.Lib.SmallJoins
import Derived.Deep.Slices
namespace Go.Proofs.YtcfgacdcgljbaaaGreatDoor
open Go.ChangeShapes Go.WideShapes Go.RowKit Go.Deep Go.WideElems Go.Maps Go.Joins
theorem list2F {α : Type} {l : List α} (h : l.length = 2) : ∃ c0 c1, l = [c0, c1] := by
  match l, h with
  | [c0, c1], _ => exact ⟨c0, c1, rfl⟩
theorem cells_agg2 {H : Type} {enc : TypeId × Value → H} {P : Program} {w : World} {base : Nat} {spare : Nat → Bool} {held : Bool} {t : TypeId} {fuel : Nat} {f0 f1 : Field} {cs : List Value} {d : DataW H} {p : List MemPlace} (hs : P.underlying t = some (.struct #[f0, f1])) (hone : oneCellFields P #[f0, f1] = true) (hC : P.cellsOf t = 2)
    (h : DataW.trod enc P w base spare held fuel t cs = some (d, p)) :
    ∃ (v0 v1 : Value) (y0 y1 : DataW H × List MemPlace) (n : Nat), cs = [v0, v1] ∧ d = .agg [y0.1, y1.1] ∧
      DataW.trod enc P w base spare held n f0.type [v0] = some y0 ∧ DataW.trod enc P w base spare held n f1.type [v1] = some y1 := by
  obtain ⟨xs, n, _, hx, hlen, hxl, hfs⟩ := DataW.trod_struct hs h
  obtain ⟨c0, c1, rfl⟩ := list2F (hlen.trans hC)
  obtain ⟨y0, y1, rfl⟩ := list2F (hxl.trans rfl)
  have g0 := hfs 0 f0 rfl
  have g1 := hfs 1 f1 rfl
  obtain ⟨o0, k0⟩ := hone_of hone 0 f0 rfl
  obtain ⟨o1, k1⟩ := hone_of hone 1 f1 rfl
  rw [o0, k0] at g0
  rw [o1, k1] at g1
  simp only [Prod.mk.injEq] at hx
  exact ⟨c0, c1, y0, y1, n, rfl, hx.1, g0, g1⟩
theorem gFine : Tryz.prog.globalNamed "tallyman/tallymanref.Fine" = some 0 := by kernel_rfl
theorem fineType : (Tryz.prog.globals[0]?).map (·.type) = some 91 := by kernel_rfl
theorem fltCells : Tryz.prog.cellsOf 91 = 2 := by kernel_rfl
set_option maxRecDepth 100000 in
theorem fine_of {W : World} {rest : List (String × DataW Unit)} (h : laidMet Tryz.prog (("tallyman/tallymanref.Fine", .agg [.lit (.int .i64 0), .lit (.int .i64 (-1))]) :: rest) W) : FineAt W := by
  obtain ⟨ps, ⟨g', t', cs, fuel, p, q, hg', ht', hvar, hd, _, _⟩, _⟩ := h
  obtain rfl := Option.some.inj (gFine.symm.trans hg')
  obtain rfl := Option.some.inj (fineType.symm.trans ht')
  obtain ⟨v0, v1, y0, y1, n, hcs, hagg, h0, h1⟩ := cells_agg2 Tryz.underlying91 (by kernel_rfl) fltCells hd
  obtain ⟨a0, e0, rfl, _⟩ := DataW.trod_int Tryz.underlying47 h0
  obtain ⟨a1, e1, rfl, _⟩ := DataW.trod_int Tryz.underlying3 h1
  simp only [List.cons.injEq, and_true] at e0 e1
  subst e0 e1
  simp only [DataW.agg.injEq, List.cons.injEq, and_true, DataW.lit.injEq, Lit.int.injEq, true_and] at hagg
  obtain ⟨rfl, rfl⟩ := hagg
  obtain rfl : cs = #[.int .i64 0, .int .i64 (-1)] := by cases cs; simp_all
  constructor
  all_goals (rw [World.var?_cell gFine hvar]; rfl)
end Go.Proofs.YtcfgacdcgljbaaaGreatDoor
