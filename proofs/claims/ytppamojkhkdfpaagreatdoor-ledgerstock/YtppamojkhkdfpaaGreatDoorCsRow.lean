/- A row of events, each with the place at which it stood, as slices.SortStableFunc turns it: loads, stores, exchanges. -/
import Derived.Test.YtppamojkhkdfpaaGreatDoorBnI
import Derived.Shelf.SlSortCmp.InsertionK
namespace Go.Proofs.YtppamojkhkdfpaaGreatDoor
open Go.RowKit
open Go.Sort hiding Below
open Go.Shelf Go.Lib
def encP (p : EvN) : List Value := evC p.1
theorem encP_len (p : EvN) : (encP p).length = 7 := rfl
theorem encP_one (p : EvN) : ∀ v ∈ encP p, v.oneCell' = true := evC_one p.1
/-- Where the row lies. -/
structure Cs0 (w0 : World) (blk off n : Nat) : Prop where
  holds : ∃ d0 : Array EvN, d0.size = n ∧ HoldsK encP 7 w0 blk off d0
  lt : blk < w0.heap.size
/-- A world of the sort's, and what the row holds in it. -/
structure Cs (w0 : World) (blk off n : Nat) (W : World) (d : Array EvN) : Prop where
  size : d.size = n
  is : ∃ m os, W = sortWorldK encP 7 w0 blk off m d os
/-- What is asked of the function that compares: it may make memory of its own. -/
def CmpG (P : Program) (g : Nat) (cb : Array Value) : Prop := ∀ (x y : EvN) (W : World), Calls P g (#[.agg (encP x).toArray, .agg (encP y).toArray] ++ cb) W fun e w' => e = .returned (.int .i64 (cmpE x.1 y.1)) ∧ ∃ q os, w' = grow (W.drewN q) os
theorem cmpG_compare : CmpG Tryz.prog 62 #[] := fun x y W => compare_grow x.1 y.1 W
section
variable {w0 : World} {blk off n : Nat} {W : World} {d : Array EvN}
theorem Cs.grown (h : Cs w0 blk off n W d) (k : Nat) (os : Array Obj) : Cs w0 blk off n (grow (W.drewN k) os) d := by
  obtain ⟨hs, m, o, rfl⟩ := h
  exact ⟨hs, m + k, o ++ os, sortWorldK_grown_c encP 7 w0 blk off m k d o os⟩
theorem Cs.drew (h : Cs w0 blk off n W d) : Cs w0 blk off n W.drew d := by
  obtain ⟨hs, m, o, rfl⟩ := h
  exact ⟨hs, m + 1, o, rfl⟩
theorem Cs.holds (h0 : Cs0 w0 blk off n) (h : Cs w0 blk off n W d) : HoldsK encP 7 W blk off d := by
  obtain ⟨hs, m, o, rfl⟩ := h
  obtain ⟨⟨d0, e0, hH⟩, hl⟩ := h0
  exact holdsK_sortWorldK_c encP 7 w0 blk off d0 d m o hH hl (by rw [hs, e0])
theorem Cs.load (h0 : Cs0 w0 blk off n) (h : Cs w0 blk off n W d) {k : Nat} (hk : k = 7) (i : Nat) (hi : i < n) (P : Program) : Sem.run P (loadCellsFrom ⟨blk, off + i * k, none⟩ 0 k #[]) W = .ok (encP d[i]!).toArray W := by
  subst hk
  exact run_loadCellsFrom_list P _ _ _ 7 (encP_len _) (HoldsK.cells (h.holds h0) encP_len (by have := h.size; omega))
theorem Cs.cell (h0 : Cs0 w0 blk off n) (h : Cs w0 blk off n W d) (i j : Nat) (hi : i < n) (v : Value) (hv : (evC d[i]!.1)[j]? = some v) : W.cell? ⟨blk, off + i * 7 + j, none⟩ = some v := by
  have := HoldsK.cells (h.holds h0) encP_len (i := i) (by have := h.size; omega) j v hv
  rw [show (⟨blk, off + i * 7, none⟩ : Addr).add j = ⟨blk, off + i * 7 + j, none⟩ by unfold Addr.add; split <;> simp_all] at this
  exact this
/-- An exchange, in the world behind the region's draw. -/
theorem Cs.exch (h0 : Cs0 w0 blk off n) (h : Cs w0 blk off n W d) {k : Nat} (hk : k = 7) (P : Program) (i j : Nat) (hi : i < n) (hj : j < n) :
    ∃ (cX cY : List Value) (W1 W2 : World), cX.length = k ∧ cY.length = k
      ∧ Sem.run P (loadCellsFrom ⟨blk, off + i * k, none⟩ 0 k #[]) W.drew = .ok cX.toArray W.drew
      ∧ Sem.run P (loadCellsFrom ⟨blk, off + j * k, none⟩ 0 k #[]) W.drew = .ok cY.toArray W.drew
      ∧ Sem.run P (storeCells ⟨blk, off + i * k, none⟩ cY 0) W.drew = .ok () W1
      ∧ Sem.run P (storeCells ⟨blk, off + j * k, none⟩ cX 0) W1 = .ok () W2
      ∧ Cs w0 blk off n W2 (swp d i j) := by
  subst hk
  have hs := h.size
  have hd := h.drew
  have hH := hd.holds h0
  have bnd : ∀ x, x < d.size → x * 7 + 7 ≤ d.size * 7 := fun x hx => by omega
  refine ⟨encP d[i]!, encP d[j]!, _, _, encP_len _, encP_len _, hd.load h0 rfl i hi _, hd.load h0 rfl j hj _, stores_of_holds _ hH (i * 7) _ (by rw [encP_len, size_flatK]; exact bnd i (by omega)) (encP_one _),
    stores_of_holds _ (holds_setCells_c hH (i * 7) _ (by rw [encP_len, size_flatK]; exact bnd i (by omega))) (j * 7) _ (by rw [encP_len, size_setMany, size_flatK]; exact bnd j (by omega)) (encP_one _), ?_⟩
  obtain ⟨_, m, o, rfl⟩ := h
  refine ⟨by rw [size_swp]; exact hs, m + 1, o, ?_⟩
  exact sortWorldK_swp_c encP 7 w0 blk off encP_len m d o h0.lt i j (by omega) (by omega)
end
theorem cmp_ltP {x y : EvN} (h : y.2 < x.2) : ltP x y = decide (cmpE x.1 y.1 < 0) := by rw [less_P h]; rfl
/-- What is used of the program: the bodies of the sort's functions, and their types; how many cells an event has is not looked at. -/
structure CsP (P : Program) (k : Nat) : Prop where
  mixed : P.follows .mixedOrders = true
  fS : P.funcs[263]? = some Tryz.f263
  eS : ∀ args w, (callFunc 263 args).run P w = .ok (.enter 263 args) w
  fI : P.funcs[141]? = some Tryz.f141
  eI : ∀ args w, (callFunc 141 args).run P w = .ok (.enter 141 args) w
  fR : P.funcs[253]? = some Tryz.f253
  eR : ∀ args w, (callFunc 253 args).run P w = .ok (.enter 253 args) w
  fM : P.funcs[232]? = some Tryz.f232
  eM : ∀ args w, (callFunc 232 args).run P w = .ok (.enter 232 args) w
  fT : P.funcs[185]? = some Tryz.f185
  eT : ∀ args w, (callFunc 185 args).run P w = .ok (.enter 185 args) w
  t0 : P.underlying 0 = some (TypeDesc.tuple #[])
  a0 : ∀ w, (isAgg 0).run P w = .ok false w
  z0 : ∀ w, (Go.sizeOf 0).run P w = .ok 1 w
  v0 : ∀ w, (zeroValue 0).run P w = .ok (Value.tuple #[]) w
  tI : P.underlying 3 = some (TypeDesc.int IntKind.i64)
  aI : ∀ w, (isAgg 3).run P w = .ok false w
  zI : ∀ w, (Go.sizeOf 3).run P w = .ok 1 w
  vI : ∀ w, (zeroValue 3).run P w = .ok (Value.int IntKind.i64 0) w
  tB : P.underlying 4 = some (TypeDesc.bool)
  aB : ∀ w, (isAgg 4).run P w = .ok false w
  zB : ∀ w, (Go.sizeOf 4).run P w = .ok 1 w
  vB : ∀ w, (zeroValue 4).run P w = .ok (Value.bool false) w
  tU : P.underlying 201 = some (TypeDesc.int IntKind.u64)
  aU : ∀ w, (isAgg 201).run P w = .ok false w
  zU : ∀ w, (Go.sizeOf 201).run P w = .ok 1 w
  vU : ∀ w, (zeroValue 201).run P w = .ok (Value.int IntKind.u64 0) w
  tL : P.underlying 59 = some (TypeDesc.slice 44)
  aL : ∀ w, (isAgg 59).run P w = .ok false w
  zL : ∀ w, (Go.sizeOf 59).run P w = .ok 1 w
  vL : ∀ w, (zeroValue 59).run P w = .ok (Value.slice none 0 0) w
  tF : P.underlying 145 = some (TypeDesc.func #[44, 44] #[3] false)
  aF : ∀ w, (isAgg 145).run P w = .ok false w
  zF : ∀ w, (Go.sizeOf 145).run P w = .ok 1 w
  vF : ∀ w, (zeroValue 145).run P w = .ok (Value.nilFunc) w
  aE : ∀ w, (isAgg 44).run P w = .ok true w
  zE : ∀ w, (Go.sizeOf 44).run P w = .ok k w
theorem csP : CsP Tryz.prog 7 where
  mixed := by kernel_rfl
  fS := Tryz.func263
  eS := enters_of Tryz.func263 (by kernel_rfl) rfl
  fI := Tryz.func141
  eI := enters_of Tryz.func141 (by kernel_rfl) rfl
  fR := Tryz.func253
  eR := enters_of Tryz.func253 (by kernel_rfl) rfl
  fM := Tryz.func232
  eM := enters_of Tryz.func232 (by kernel_rfl) rfl
  fT := Tryz.func185
  eT := enters_of Tryz.func185 (by kernel_rfl) rfl
  t0 := by kernel_rfl
  a0 := fun _ => by kernel_rfl
  z0 := fun _ => by kernel_rfl
  v0 := fun _ => by kernel_rfl
  tI := by kernel_rfl
  aI := fun _ => by kernel_rfl
  zI := fun _ => by kernel_rfl
  vI := fun _ => by kernel_rfl
  tB := by kernel_rfl
  aB := fun _ => by kernel_rfl
  zB := fun _ => by kernel_rfl
  vB := fun _ => by kernel_rfl
  tU := by kernel_rfl
  aU := fun _ => by kernel_rfl
  zU := fun _ => by kernel_rfl
  vU := fun _ => by kernel_rfl
  tL := by kernel_rfl
  aL := fun _ => by kernel_rfl
  zL := fun _ => by kernel_rfl
  vL := fun _ => by kernel_rfl
  tF := by kernel_rfl
  aF := fun _ => by kernel_rfl
  zF := fun _ => by kernel_rfl
  vF := fun _ => by kernel_rfl
  aE := fun _ => by kernel_rfl
  zE := fun _ => by kernel_rfl
end Go.Proofs.YtppamojkhkdfpaaGreatDoor
