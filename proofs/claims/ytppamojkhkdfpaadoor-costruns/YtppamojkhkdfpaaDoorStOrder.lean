/- sort.SliceStable at a row of events, and tallymanref.ordered. -/
import Derived.Test.YtppamojkhkdfpaaDoorStEntry
namespace Go.Proofs.YtppamojkhkdfpaaDoor
open Go.RowKit
open Go.Sort hiding Below
open Go.Shelf Go.Lib
noncomputable def Tryd.svT : TypeInfo := (Tryd.prog.info? 22).get (by kernel_rfl)
noncomputable def Tryd.svE : TypeInfo := (Tryd.prog.info? 24).get (by kernel_rfl)
theorem Tryd.svTi : Tryd.prog.info? 22 = some Tryd.svT := by kernel_rfl
theorem Tryd.svEi : Tryd.prog.info? 24 = some Tryd.svE := by kernel_rfl
theorem Tryd.svK (n : Nat) (h2 : 2 ≤ n) : Lib.swapperK n Tryd.svE 25 = 9 := by
  have a : Tryd.svE.hasPointers = true := by kernel_rfl
  have b : (Tryd.svE.bytes == 8) = false := by kernel_rfl
  have c : (n == 0) = false := by simp; omega
  have d : (n == 1) = false := by simp; omega
  simp [Lib.swapperK, a, b, c, d]
theorem kind_ev (w : World) : (Extern.Rtype.kind 24).run Tryd.prog w = .ok 25 w := by kernel_rfl
theorem agg_ev (w : World) : (isAgg 24).run Tryd.prog w = .ok true w := by kernel_rfl
theorem swap_lit (args : Array Value) (W : World) : (callFunc 76 args).run Tryd.prog W = ((Extern.ReflectliteSwapper.swap false args).run Tryd.prog W).andThen fun v w' => .ok (.value v) w' :=
  run_callFunc_extern Tryd.func76 (by kernel_rfl) (by kernel_rfl) (by kernel_rfl) (e := Extern.ReflectliteSwapper.swap false) (by kernel_rfl) args W
/-- Two elements are exchanged. -/
theorem swap_any {B blk bo n c : Nat} {W : World} {d : Array Ev} (h : StE B blk bo n c W d) (hbo : bo ≠ blk) (i j : Nat) (hi : i < n) (hj : j < n) :
    ∃ W', (callFunc 76 (#[.int .i64 i, .int .i64 j] ++ #[.slice (some ⟨blk, 0, none⟩) n c, typeHandle Tryd.prog 24])).run Tryd.prog W = .ok (.value (.tuple #[])) W' ∧ StE B blk bo n c W' (swp d i j) ∧ W.grownBy W' (some blk) := by
  have hs := h.size
  have hH : HoldsK evC 7 W blk 0 d := by
    have := holdsK_of_own (l := d.toList) evC_len h.own
    simpa using this
  have hlit := swapSwapsK_of_literal (P := Tryd.prog) false 76 swap_lit 24 Tryd.svE Tryd.svEi evC 7 evC_len (by kernel_rfl) agg_ev evC_one blk 0 n c W d hH hs i j hi hj
  refine ⟨_, hlit, ⟨?_, ?_, ?_⟩, ?_⟩
  · rw [size_swp]; exact hs
  · have h1 := own_setCells (evC d[j]!) (0 + i * 7) _ _ h.own
    have h2 := own_setCells (evC d[i]!) (0 + j * 7) _ _ h1
    have e : flatK evC 7 d = (d.toList.flatMap evC).toArray := by
      have := flatK_is evC 7 evC_len d.toList
      simpa using this
    have e2 : flatK evC 7 (swp d i j) = ((swp d i j).toList.flatMap evC).toArray := by
      have := flatK_is evC 7 evC_len (swp d i j).toList
      simpa using this
    have e3 := setMany_swp evC 7 evC_len d i j (by omega) (by omega)
    rw [e, e2] at e3
    simp only [Nat.zero_add] at h1 h2 ⊢
    rw [Array.toArray_toList, e3] at h2
    exact h2
  · have := h.box
    rw [World.cell?_setCells_out _ _ _ _ _ (fun e _ => absurd e hbo), World.cell?_setCells_out _ _ _ _ _ (fun e _ => absurd e hbo)]
    exact this
  · exact grown_then (grown_setCells _ _ _ _) (grown_setCells _ _ _ _)
/-- The row of events, as a sort is handed it. -/
theorem sorts_ev {B blk bo n c : Nat} (hbo : bo ≠ blk) (hn : n ≤ 1000000) :
    Sorts ltA 29 #[.pointer (some ⟨bo, 0, none⟩)] 76 #[.slice (some ⟨blk, 0, none⟩) n c, typeHandle Tryd.prog 24] blk n (StE B blk bo n c) where
  size W d h := h.size
  blt W d h := h.lt
  less W d i j h hi hj := less_any h hn i j hi hj
  swap W d i j h hi hj _ := swap_any h hbo i j hi hj
  below W W' d h hb := ⟨h.size, own_below h.own hb (Nat.le_refl _), (hb.cell (p := ⟨bo, 0, none⟩) (World.block_lt_of_cell? _ _ h.box)).trans h.box⟩
  eg := enters_of Tryd.func29 (by kernel_rfl) rfl
/-- At one, and at none: nobody is exchanged. -/
theorem sorts_few {B blk bo n c sf : Nat} {sb : Array Value} (hn : n ≤ 1) :
    Sorts ltA 29 #[.pointer (some ⟨bo, 0, none⟩)] sf sb blk n (StE B blk bo n c) where
  size W d h := h.size
  blt W d h := h.lt
  less W d i j h hi hj := less_any h (by omega) i j hi hj
  swap W d i j h hi hj hne := absurd (show i = j by omega) hne
  below W W' d h hb := ⟨h.size, own_below h.own hb (Nat.le_refl _), (hb.cell (p := ⟨bo, 0, none⟩) (World.block_lt_of_cell? _ _ h.box)).trans h.box⟩
  eg := enters_of Tryd.func29 (by kernel_rfl) rfl
/-- The world in which stable_func is called: two new blocks. -/
noncomputable def entW (p : Option Addr) (n c : Nat) (w : World) : World :=
  (w.alloc (.cells #[.slice p n c] 22)).alloc (.cells #[.pointer (some ⟨7, 22, none⟩), .pointer (some ⟨w.heap.size, 0, none⟩), .int .u64 151] 111)
set_option maxHeartbeats 1000000 in
set_option maxRecDepth 100000 in
theorem entry_any (p : Option Addr) (n c : Nat) (_hn : n ≤ 1000000) (f : Nat) (hf : Tryd.prog.funcs.findIdx? (·.name == "internal/reflectlite" ++ ".Swapper$" ++ toString (swapperK n Tryd.svE 25)) = some f) (g : Nat) (lb : Array Value) (w : World) (R : World → Prop)
    (hp : Calls Tryd.prog 52 #[dV g lb f (if swapperK n Tryd.svE 25 ≤ 2 then (#[] : Array Value) else #[.slice p n c, typeHandle Tryd.prog 24]), .int .i64 n] (entW p n c w) fun e w' => e = .returned (.tuple #[]) ∧ R w') :
    Calls Tryd.prog 28 #[.iface 22 (.slice p n c), .func (.func g) #[] lb] w fun e w' => e = .returned (.tuple #[]) ∧ R w' := by
  have hv := run_valueOf_slice (P := Tryd.prog) 22 24 Tryd.svT Tryd.svTi (by kernel_rfl) p n c w
  have hs := fun w => run_swapper_slice (P := Tryd.prog) 22 24 Tryd.svT Tryd.svE Tryd.svTi (by kernel_rfl) Tryd.svEi 25 kind_ev p n c f hf w
  have hl := fun a w ha => run_valueLen_slice (P := Tryd.prog) 22 24 Tryd.svT Tryd.svTi (by kernel_rfl) (by kernel_rfl) a p n c w ha
  unfold dV entW at hp
  generalize (if swapperK n Tryd.svE 25 ≤ 2 then (#[] : Array Value) else #[.slice p n c, typeHandle Tryd.prog 24]) = bd at hs hp
  have hg : Tryd.prog.globals.size = 7 := by kernel_rfl
  simp only [typeHandle, hg] at hv hl
  clear hg
  clear hf
  go_enter Tryd.func28, Tryd.ntmps28
  go_wp2
  rw [run_callFunc_extern Tryd.func50 (by kernel_rfl) (by kernel_rfl) (by kernel_rfl) (e := fun args => Extern.ReflectliteValue.unpack (args.getD 0 (.tuple #[]))) (by kernel_rfl),
    show Sem.run Tryd.prog ((fun args : Array Value => Extern.ReflectliteValue.unpack (args.getD 0 (.tuple #[]))) #[.iface 22 (.slice p n c)]) w = _ from hv]
  simp only [Result.andThen]
  rw [Oper.upon_value]
  go_wp2
  rw [run_callFunc_extern Tryd.func51 (by kernel_rfl) (by kernel_rfl) (by kernel_rfl) (e := Extern.ReflectliteSwapper.swapper "internal/reflectlite" (Extern.ReflectliteValue.valueError "Swapper")) (by kernel_rfl), hs]
  simp only [Result.andThen]
  rw [Oper.upon_value]
  go_wp2
  rw [run_callFunc_extern Tryd.func53 (by kernel_rfl) (by kernel_rfl) (by kernel_rfl) (e := Extern.ReflectliteValue.method (Extern.ReflectliteValue.valueError "reflectlite.Value.Len" 0) Extern.ReflectliteValue.len) (by kernel_rfl),
    hl _ _ (by simp)]
  simp only [Result.andThen]
  rw [Oper.upon_value]
  go_wp2_with fail
  refine hp.mono ?_
  rintro e w' ⟨rfl, hR⟩
  go_wp2
  go_end0
  exact ⟨rfl, hR⟩
/-- Two new blocks lie behind all others. -/
theorem entW_below (p : Option Addr) (n c : Nat) (w : World) : Below w.heap.size w (entW p n c w) := ((Below.refl _ _).alloc (Nat.le_refl _) _).alloc (by simp) _
/-- sort.SliceStable, at a row of events that a box names. -/
theorem sliceStable_any {B blk bo n c : Nat} {w : World} {d : Array Ev} (h : StE B blk bo n c w d) (hbo : bo ≠ blk) (hn : n ≤ 1000000) :
    Calls Tryd.prog 28 #[.iface 22 (.slice (some ⟨blk, 0, none⟩) n c), .func (.func 29) #[] #[.pointer (some ⟨bo, 0, none⟩)]] w fun e w' => e = .returned (.tuple #[]) ∧ ∃ d', StE B blk bo n c w' d' ∧ SortedIn ltA 0 n d' ∧ PermIn 0 n d d' ∧ w.grownBy w' (some blk) := by
  have hO : SWO ltA := swo_cmp
  have hb := entW_below (some ⟨blk, 0, none⟩) n c w
  have hE : StE B blk bo n c (entW (some ⟨blk, 0, none⟩) n c w) d := ⟨h.size, own_below h.own hb (Nat.le_refl _), (hb.cell (p := ⟨bo, 0, none⟩) (World.block_lt_of_cell? _ _ h.box)).trans h.box⟩
  have fin : ∀ w', (∃ d', StE B blk bo n c w' d' ∧ SortedIn ltA 0 n d' ∧ PermIn 0 n d d' ∧ (entW (some ⟨blk, 0, none⟩) n c w).grownBy w' (some blk)) → ∃ d', StE B blk bo n c w' d' ∧ SortedIn ltA 0 n d' ∧ PermIn 0 n d d' ∧ w.grownBy w' (some blk) := fun w' ⟨d', x1, x2, x3, x4⟩ => ⟨d', x1, x2, x3, grown_then (grown_below hb) x4⟩
  rcases Nat.lt_or_ge n 2 with h2 | h2
  · have hcase : n = 0 ∨ n = 1 := by omega
    rcases hcase with rfl | rfl
    · refine entry_any _ 0 c hn 68 (by kernel_rfl) _ _ w _ ?_
      exact (stable_any (sorts_few (by omega)) hO (by omega) d _ hE).mono fun e w' ⟨x, y⟩ => ⟨x, fin w' y⟩
    · refine entry_any _ 1 c hn 69 (by kernel_rfl) _ _ w _ ?_
      exact (stable_any (sorts_few (by omega)) hO (by omega) d _ hE).mono fun e w' ⟨x, y⟩ => ⟨x, fin w' y⟩
  · refine entry_any _ n c hn 76 (by rw [Tryd.svK n h2]; kernel_rfl) _ _ w _ ?_
    rw [if_neg (by rw [Tryd.svK n h2]; omega)]
    exact (stable_any (sorts_ev hbo hn) hO hn d _ hE).mono fun e w' ⟨x, y⟩ => ⟨x, fin w' y⟩
end Go.Proofs.YtppamojkhkdfpaaDoor
