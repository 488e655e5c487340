/- sort.SliceStable at a row of events, by tallymanref.Ahead: tallymanref.ordered. sort.SliceStable at a row of events, and tallymanref.ordered. -/
import Derived.Test.YtcfgacdcgljbaaaGreatDoorStStable
import Derived.Test.YtcfgacdcgljbaaaGreatDoorBnF
import Derived.Test.YtcfgacdcgljbaaaGreatDoorBnC
import Derived.Shelf.GgSortFunc.SmallK
import Derived.Lib.ReflectliteSlice
namespace Go.Proofs.YtcfgacdcgljbaaaGreatDoor
open Go.RowKit
open Go.Sort hiding Below
open Go.Shelf Go.Lib
/-- A run of stores into a row that is owned. -/
theorem own_setCells {B : Nat} {T : TypeId} {m g n cap : Nat} : ∀ (vs : List Value) (o : Nat) (w : World) (xs : List Value), w.ownsRow B T m (.slice (some ⟨g, 0, none⟩) n cap) n xs → (w.setCells g o vs).ownsRow B T m (.slice (some ⟨g, 0, none⟩) n cap) n (setMany xs.toArray o vs).toList
  | [], _, _, _, h => h
  | v :: r, o, w, xs, h => by
    have := own_setCells r (o + 1) _ _ (own_set h o v)
    rw [World.setCells, setMany]
    simpa using this
theorem grown_setCells (g : Nat) : ∀ (vs : List Value) (o : Nat) (w : World), w.grownBy (w.setCells g o vs) (some g)
  | [], _, w => grown_refl w _
  | v :: r, o, w => by
    refine grown_then ?_ (grown_setCells g r (o + 1) _)
    exact ⟨rfl, rfl, rfl, by simp [World.setCell], fun k _ hk => Below.heap_setCell _ _ _ _ (fun e => hk (by rw [e]))⟩
/-- What the sort goes through: the row, and the box that names it. -/
structure StE (B blk bo n c : Nat) (W : World) (d : Array Ev) : Prop where
  size : d.size = n
  own : W.ownsRow B 44 7 (.slice (some ⟨blk, 0, none⟩) n c) n (d.toList.flatMap evC)
  box : W.cell? ⟨bo, 0, none⟩ = some (.slice (some ⟨blk, 0, none⟩) n c)
theorem StE.lt {B blk bo n c : Nat} {W : World} {d : Array Ev} (h : StE B blk bo n c W d) : blk < W.heap.size := (h.own.lt blk rfl).2
theorem StE.cellsAt {B blk bo n c : Nat} {W : World} {d : Array Ev} (h : StE B blk bo n c W d) (i : Nat) (hi : i < n) (j : Nat) (hj : j < 7) : W.cell? ⟨blk, i * 7 + j, none⟩ = (evC d[i]!)[j]? := by
  have hs := h.size
  have := (own_cell evC_len h.own i j (by simpa using (by omega : i < d.size)) hj).1
  rw [this]
  congr 2
  rw [getElem!_pos d i (by omega)]
  simp
theorem ltA_iff (x y : Ev) : ltA x y = true ↔ Ahd x y := lt_cmp x y
set_option maxRecDepth 20000 in
set_option maxHeartbeats 4000000 in
theorem less_any {B blk bo n c : Nat} {W : World} {d : Array Ev} (h : StE B blk bo n c W d) (_hn : n ≤ 1000000) (i j : Nat) (hi : i < n) (hj : j < n) :
    Calls Tryz.prog 100 #[.int .i64 i, .int .i64 j, .pointer (some ⟨bo, 0, none⟩)] W fun e w' => e = .returned (.bool (ltA d[i]! d[j]!)) ∧ Below W.heap.size W w' := by
  have hci := fun t ht => h.cellsAt i hi t ht
  have hcj := fun t ht => h.cellsAt j hj t ht
  have hbox := h.box
  have hsz := h.size
  generalize hx : d[i]! = x at hci
  generalize hy : d[j]! = y at hcj
  clear h
  obtain ⟨id, item, kind, qty, price, ofI, day⟩ := x
  obtain ⟨id2, item2, kind2, qty2, price2, ofI2, day2⟩ := y
  have hcall := fun w => ahead_any ⟨id, item, kind, qty, price, ofI, day⟩ ⟨id2, item2, kind2, qty2, price2, ofI2, day2⟩ w
  have HL := ltA_iff ⟨id, item, kind, qty, price, ofI, day⟩ ⟨id2, item2, kind2, qty2, price2, ofI2, day2⟩
  generalize ltA ⟨id, item, kind, qty, price, ofI, day⟩ ⟨id2, item2, kind2, qty2, price2, ofI2, day2⟩ = lv at HL
  generalize Ahd ⟨id, item, kind, qty, price, ofI, day⟩ ⟨id2, item2, kind2, qty2, price2, ofI2, day2⟩ = pp at HL hcall
  have HLL : Hid (lv = true ↔ pp) := HL
  clear HL hx hy
  unfold evV at hcall
  simp only at hcall
  have q0 := hci 0 (by omega)
  have q1 := hci 1 (by omega)
  have q2 := hci 2 (by omega)
  have q3 := hci 3 (by omega)
  have q4 := hci 4 (by omega)
  have q5 := hci 5 (by omega)
  have q6 := hci 6 (by omega)
  have r0 := hcj 0 (by omega)
  have r1 := hcj 1 (by omega)
  have r2 := hcj 2 (by omega)
  have r3 := hcj 3 (by omega)
  have r4 := hcj 4 (by omega)
  have r5 := hcj 5 (by omega)
  have r6 := hcj 6 (by omega)
  simp only [evC, List.getElem?_cons_zero, List.getElem?_cons_succ, Nat.add_zero] at q0 q1 q2 q3 q4 q5 q6 r0 r1 r2 r3 r4 r5 r6
  clear hci hcj
  obtain ⟨W0, hW⟩ : ∃ x, x = W.drew := ⟨_, rfl⟩
  have hB0 : Below W.heap.size W W0 := by rw [hW]; exact below_drew _
  have HW : Hid (W0 = _) := hW
  have cw : ∀ {p : Addr} {v : Value}, W.cell? p = some v → W0.cell? p = some v := fun {p v} hp => by rw [hW, World.cell?_drew]; exact hp
  have hU := up_ne
  have fb := fun n : Up W0 => n.cell (cw hbox)
  have f0 := fun n : Up W0 => n.cell (cw q0)
  have f1 := fun n : Up W0 => n.cell (cw q1)
  have f2 := fun n : Up W0 => n.cell (cw q2)
  have f3 := fun n : Up W0 => n.cell (cw q3)
  have f4 := fun n : Up W0 => n.cell (cw q4)
  have f5 := fun n : Up W0 => n.cell (cw q5)
  have f6 := fun n : Up W0 => n.cell (cw q6)
  have g0 := fun n : Up W0 => n.cell (cw r0)
  have g1 := fun n : Up W0 => n.cell (cw r1)
  have g2 := fun n : Up W0 => n.cell (cw r2)
  have g3 := fun n : Up W0 => n.cell (cw r3)
  have g4 := fun n : Up W0 => n.cell (cw r4)
  have g5 := fun n : Up W0 => n.cell (cw r5)
  have g6 := fun n : Up W0 => n.cell (cw r6)
  clear hW cw q0 q1 q2 q3 q4 q5 q6 r0 r1 r2 r3 r4 r5 r6 hbox
  go_enter Tryz.func100, Tryz.ntmps100
  go_wp2_with fail
  refine wp_region_mix [(true, 0), (true, 1), (true, 2), (true, 3), (true, 4), (true, 5), (true, 6), (true, 7), (false, 8), (true, 9)] (by kernel_rfl) (by kernel_rfl) ?_
  rw [← HW.out]
  repeat (refine mix_q rfl ?_; go_big_quiet_step (fail); refine wpQuiet_nil ?_)
  refine mix_n rfl ?_
  go_wp2_with fail
  refine (hcall _).mono ?_
  rintro e w1 ⟨⟨bv, rfl, hbv⟩, hb1⟩
  obtain rfl : bv = lv := by
    have := HLL.out
    rw [Bool.eq_iff_iff, this]
    exact hbv
  clear f0 f1 f2 f3 f4 f5 f6 g0 g1 g2 g3 g4 g5 g6 fb
  go_wp2_with fail
  refine ⟨rfl, hb1, ?_⟩
  repeat (refine mix_q rfl ?_; go_big_quiet_step (fail); refine wpQuiet_nil ?_)
  refine mix_nil ?_
  go_wp2
  go_ret
  exact ⟨rfl, hB0.trans (hb1.mono hB0.size)⟩
end Go.Proofs.YtcfgacdcgljbaaaGreatDoor
namespace Go.Proofs.YtcfgacdcgljbaaaGreatDoor
open Go.RowKit
open Go.Sort hiding Below
open Go.Shelf Go.Lib
noncomputable def Tryz.svT : TypeInfo := (Tryz.prog.info? 59).get (by kernel_rfl)
noncomputable def Tryz.svE : TypeInfo := (Tryz.prog.info? 44).get (by kernel_rfl)
theorem Tryz.svTi : Tryz.prog.info? 59 = some Tryz.svT := by kernel_rfl
theorem Tryz.svEi : Tryz.prog.info? 44 = some Tryz.svE := by kernel_rfl
theorem Tryz.svK (n : Nat) (h2 : 2 ≤ n) : Lib.swapperK n Tryz.svE 25 = 9 := by
  have a : Tryz.svE.hasPointers = true := by kernel_rfl
  have b : (Tryz.svE.bytes == 8) = false := by kernel_rfl
  have c : (n == 0) = false := by simp; omega
  have d : (n == 1) = false := by simp; omega
  simp [Lib.swapperK, a, b, c, d]
theorem kind_ev (w : World) : (Extern.Rtype.kind 44).run Tryz.prog w = .ok 25 w := by kernel_rfl
theorem agg_ev (w : World) : (isAgg 44).run Tryz.prog w = .ok true w := by kernel_rfl
theorem swap_lit (args : Array Value) (W : World) : (callFunc 177 args).run Tryz.prog W = ((Extern.ReflectliteSwapper.swap false args).run Tryz.prog W).andThen fun v w' => .ok (.value v) w' :=
  run_callFunc_extern Tryz.func177 (by kernel_rfl) (by kernel_rfl) (by kernel_rfl) (e := Extern.ReflectliteSwapper.swap false) (by kernel_rfl) args W
/-- Two elements are exchanged. -/
theorem swap_any {B blk bo n c : Nat} {W : World} {d : Array Ev} (h : StE B blk bo n c W d) (hbo : bo ≠ blk) (i j : Nat) (hi : i < n) (hj : j < n) :
    ∃ W', (callFunc 177 (#[.int .i64 i, .int .i64 j] ++ #[.slice (some ⟨blk, 0, none⟩) n c, typeHandle Tryz.prog 44])).run Tryz.prog W = .ok (.value (.tuple #[])) W' ∧ StE B blk bo n c W' (swp d i j) ∧ W.grownBy W' (some blk) := by
  have hs := h.size
  have hH : HoldsK evC 7 W blk 0 d := by
    have := holdsK_of_own (l := d.toList) evC_len h.own
    simpa using this
  have hlit := swapSwapsK_of_literal (P := Tryz.prog) false 177 swap_lit 44 Tryz.svE Tryz.svEi evC 7 evC_len (by kernel_rfl) agg_ev evC_one blk 0 n c W d hH hs i j hi hj
  refine ⟨_, hlit, ⟨?_, ?_, ?_⟩, ?_⟩
  · rw [size_swp]; exact hs
  · have h1 := own_setCells (evC d[j]!) (0 + i * 7) _ _ h.own
    have h2 := own_setCells (evC d[i]!) (0 + j * 7) _ _ h1
    have e : flatK evC 7 d = (d.toList.flatMap evC).toArray := by
      have := flatK_is evC 7 evC_len d.toList
      simpa using this
    have e2 : flatK evC 7 (swp d i j) = ((swp d i j).toList.flatMap evC).toArray := by
      have := flatK_is evC 7 evC_len (swp d i j).toList
      simpa using this
    have e3 := setMany_swp evC 7 evC_len d i j (by omega) (by omega)
    rw [e, e2] at e3
    simp only [Nat.zero_add] at h1 h2 ⊢
    rw [Array.toArray_toList, e3] at h2
    exact h2
  · have := h.box
    rw [World.cell?_setCells_out _ _ _ _ _ (fun e _ => absurd e hbo), World.cell?_setCells_out _ _ _ _ _ (fun e _ => absurd e hbo)]
    exact this
  · exact grown_then (grown_setCells _ _ _ _) (grown_setCells _ _ _ _)
/-- The row of events, as a sort is handed it. -/
theorem sorts_ev {B blk bo n c : Nat} (hbo : bo ≠ blk) (hn : n ≤ 1000000) :
    Sorts ltA 100 #[.pointer (some ⟨bo, 0, none⟩)] 177 #[.slice (some ⟨blk, 0, none⟩) n c, typeHandle Tryz.prog 44] blk n (StE B blk bo n c) where
  size W d h := h.size
  blt W d h := h.lt
  less W d i j h hi hj := less_any h hn i j hi hj
  swap W d i j h hi hj _ := swap_any h hbo i j hi hj
  below W W' d h hb := ⟨h.size, own_below h.own hb (Nat.le_refl _), (hb.cell (p := ⟨bo, 0, none⟩) (World.block_lt_of_cell? _ _ h.box)).trans h.box⟩
  eg := enters_of Tryz.func100 (by kernel_rfl) rfl
/-- At one, and at none: nobody is exchanged. -/
theorem sorts_few {B blk bo n c sf : Nat} {sb : Array Value} (hn : n ≤ 1) :
    Sorts ltA 100 #[.pointer (some ⟨bo, 0, none⟩)] sf sb blk n (StE B blk bo n c) where
  size W d h := h.size
  blt W d h := h.lt
  less W d i j h hi hj := less_any h (by omega) i j hi hj
  swap W d i j h hi hj hne := absurd (show i = j by omega) hne
  below W W' d h hb := ⟨h.size, own_below h.own hb (Nat.le_refl _), (hb.cell (p := ⟨bo, 0, none⟩) (World.block_lt_of_cell? _ _ h.box)).trans h.box⟩
  eg := enters_of Tryz.func100 (by kernel_rfl) rfl
/-- The world in which stable_func is called: two new blocks. -/
noncomputable def entW (p : Option Addr) (n c : Nat) (w : World) : World :=
  (w.alloc (.cells #[.slice p n c] 59)).alloc (.cells #[.pointer (some ⟨12, 59, none⟩), .pointer (some ⟨w.heap.size, 0, none⟩), .int .u64 151] 230)
set_option maxHeartbeats 1000000 in
set_option maxRecDepth 100000 in
theorem entry_any (p : Option Addr) (n c : Nat) (_hn : n ≤ 1000000) (f : Nat) (hf : Tryz.prog.funcs.findIdx? (·.name == "internal/reflectlite" ++ ".Swapper$" ++ toString (swapperK n Tryz.svE 25)) = some f) (g : Nat) (lb : Array Value) (w : World) (R : World → Prop)
    (hp : Calls Tryz.prog 143 #[dV g lb f (if swapperK n Tryz.svE 25 ≤ 2 then (#[] : Array Value) else #[.slice p n c, typeHandle Tryz.prog 44]), .int .i64 n] (entW p n c w) fun e w' => e = .returned (.tuple #[]) ∧ R w') :
    Calls Tryz.prog 99 #[.iface 59 (.slice p n c), .func (.func g) #[] lb] w fun e w' => e = .returned (.tuple #[]) ∧ R w' := by
  have hv := run_valueOf_slice (P := Tryz.prog) 59 44 Tryz.svT Tryz.svTi (by kernel_rfl) p n c w
  have hs := fun w => run_swapper_slice (P := Tryz.prog) 59 44 Tryz.svT Tryz.svE Tryz.svTi (by kernel_rfl) Tryz.svEi 25 kind_ev p n c f hf w
  have hl := fun a w ha => run_valueLen_slice (P := Tryz.prog) 59 44 Tryz.svT Tryz.svTi (by kernel_rfl) (by kernel_rfl) a p n c w ha
  unfold dV entW at hp
  generalize (if swapperK n Tryz.svE 25 ≤ 2 then (#[] : Array Value) else #[.slice p n c, typeHandle Tryz.prog 44]) = bd at hs hp
  have hg : Tryz.prog.globals.size = 12 := by kernel_rfl
  simp only [typeHandle, hg] at hv hl
  clear hg
  clear hf
  go_enter Tryz.func99, Tryz.ntmps99
  go_wp2
  rw [run_callFunc_extern Tryz.func119 (by kernel_rfl) (by kernel_rfl) (by kernel_rfl) (e := fun args => Extern.ReflectliteValue.unpack (args.getD 0 (.tuple #[]))) (by kernel_rfl),
    show Sem.run Tryz.prog ((fun args : Array Value => Extern.ReflectliteValue.unpack (args.getD 0 (.tuple #[]))) #[.iface 59 (.slice p n c)]) w = _ from hv]
  simp only [Result.andThen]
  rw [Oper.upon_value]
  go_wp2
  rw [run_callFunc_extern Tryz.func120 (by kernel_rfl) (by kernel_rfl) (by kernel_rfl) (e := Extern.ReflectliteSwapper.swapper "internal/reflectlite" (Extern.ReflectliteValue.valueError "Swapper")) (by kernel_rfl), hs]
  simp only [Result.andThen]
  rw [Oper.upon_value]
  go_wp2
  rw [run_callFunc_extern Tryz.func121 (by kernel_rfl) (by kernel_rfl) (by kernel_rfl) (e := Extern.ReflectliteValue.method (Extern.ReflectliteValue.valueError "reflectlite.Value.Len" 0) Extern.ReflectliteValue.len) (by kernel_rfl),
    hl _ _ (by simp)]
  simp only [Result.andThen]
  rw [Oper.upon_value]
  go_wp2_with fail
  refine hp.mono ?_
  rintro e w' ⟨rfl, hR⟩
  go_wp2
  go_end0
  exact ⟨rfl, hR⟩
/-- Two new blocks lie behind all others. -/
theorem entW_below (p : Option Addr) (n c : Nat) (w : World) : Below w.heap.size w (entW p n c w) := ((Below.refl _ _).alloc (Nat.le_refl _) _).alloc (by simp) _
/-- sort.SliceStable, at a row of events that a box names. -/
theorem sliceStable_any {B blk bo n c : Nat} {w : World} {d : Array Ev} (h : StE B blk bo n c w d) (hbo : bo ≠ blk) (hn : n ≤ 1000000) :
    Calls Tryz.prog 99 #[.iface 59 (.slice (some ⟨blk, 0, none⟩) n c), .func (.func 100) #[] #[.pointer (some ⟨bo, 0, none⟩)]] w fun e w' => e = .returned (.tuple #[]) ∧ ∃ d', StE B blk bo n c w' d' ∧ SortedIn ltA 0 n d' ∧ PermIn 0 n d d' ∧ w.grownBy w' (some blk) := by
  have hO : SWO ltA := swo_cmp
  have hb := entW_below (some ⟨blk, 0, none⟩) n c w
  have hE : StE B blk bo n c (entW (some ⟨blk, 0, none⟩) n c w) d := ⟨h.size, own_below h.own hb (Nat.le_refl _), (hb.cell (p := ⟨bo, 0, none⟩) (World.block_lt_of_cell? _ _ h.box)).trans h.box⟩
  have fin : ∀ w', (∃ d', StE B blk bo n c w' d' ∧ SortedIn ltA 0 n d' ∧ PermIn 0 n d d' ∧ (entW (some ⟨blk, 0, none⟩) n c w).grownBy w' (some blk)) → ∃ d', StE B blk bo n c w' d' ∧ SortedIn ltA 0 n d' ∧ PermIn 0 n d d' ∧ w.grownBy w' (some blk) := fun w' ⟨d', x1, x2, x3, x4⟩ => ⟨d', x1, x2, x3, grown_then (grown_below hb) x4⟩
  rcases Nat.lt_or_ge n 2 with h2 | h2
  · have hcase : n = 0 ∨ n = 1 := by omega
    rcases hcase with rfl | rfl
    · refine entry_any _ 0 c hn 169 (by kernel_rfl) _ _ w _ ?_
      exact (stable_any (sorts_few (by omega)) hO (by omega) d _ hE).mono fun e w' ⟨x, y⟩ => ⟨x, fin w' y⟩
    · refine entry_any _ 1 c hn 170 (by kernel_rfl) _ _ w _ ?_
      exact (stable_any (sorts_few (by omega)) hO (by omega) d _ hE).mono fun e w' ⟨x, y⟩ => ⟨x, fin w' y⟩
  · refine entry_any _ n c hn 177 (by rw [Tryz.svK n h2]; kernel_rfl) _ _ w _ ?_
    rw [if_neg (by rw [Tryz.svK n h2]; omega)]
    exact (stable_any (sorts_ev hbo hn) hO hn d _ hE).mono fun e w' ⟨x, y⟩ => ⟨x, fin w' y⟩
end Go.Proofs.YtcfgacdcgljbaaaGreatDoor
