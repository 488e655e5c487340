/- sort.SliceStable at a row of events, by tallymanref.Ahead: tallymanref.ordered. -/
import Derived.Test.YtppamojkhkdfpaaDoorStStable
import Derived.Test.YtppamojkhkdfpaaDoorBnI
import Derived.Test.YtppamojkhkdfpaaDoorRefEv
import Derived.Test.YtppamojkhkdfpaaDoorBnD
import Derived.Shelf.GgSortFunc.SmallK
import Derived.Lib.ReflectliteSlice
namespace Go.Proofs.YtppamojkhkdfpaaDoor
open Go.RowKit
open Go.Sort hiding Below
open Go.Shelf Go.Lib
/-- A run of stores into a row that is owned. -/
theorem own_setCells {B : Nat} {T : TypeId} {m g n cap : Nat} : ∀ (vs : List Value) (o : Nat) (w : World) (xs : List Value), w.ownsRow B T m (.slice (some ⟨g, 0, none⟩) n cap) n xs → (w.setCells g o vs).ownsRow B T m (.slice (some ⟨g, 0, none⟩) n cap) n (setMany xs.toArray o vs).toList
  | [], _, _, _, h => h
  | v :: r, o, w, xs, h => by
    have := own_setCells r (o + 1) _ _ (own_set h o v)
    rw [World.setCells, setMany]
    simpa using this
theorem grown_setCells (g : Nat) : ∀ (vs : List Value) (o : Nat) (w : World), w.grownBy (w.setCells g o vs) (some g)
  | [], _, w => grown_refl w _
  | v :: r, o, w => by
    refine grown_then ?_ (grown_setCells g r (o + 1) _)
    exact ⟨rfl, rfl, rfl, by simp [World.setCell], fun k _ hk => Below.heap_setCell _ _ _ _ (fun e => hk (by rw [e]))⟩
/-- What the sort goes through: the row, and the box that names it. -/
structure StE (B blk bo n c : Nat) (W : World) (d : Array Ev) : Prop where
  size : d.size = n
  own : W.ownsRow B 24 7 (.slice (some ⟨blk, 0, none⟩) n c) n (d.toList.flatMap evC)
  box : W.cell? ⟨bo, 0, none⟩ = some (.slice (some ⟨blk, 0, none⟩) n c)
theorem StE.lt {B blk bo n c : Nat} {W : World} {d : Array Ev} (h : StE B blk bo n c W d) : blk < W.heap.size := (h.own.lt blk rfl).2
theorem StE.cellsAt {B blk bo n c : Nat} {W : World} {d : Array Ev} (h : StE B blk bo n c W d) (i : Nat) (hi : i < n) (j : Nat) (hj : j < 7) : W.cell? ⟨blk, i * 7 + j, none⟩ = (evC d[i]!)[j]? := by
  have hs := h.size
  have := (own_cell evC_len h.own i j (by simpa using (by omega : i < d.size)) hj).1
  rw [this]
  congr 2
  rw [getElem!_pos d i (by omega)]
  simp
theorem ltA_iff (x y : Ev) : ltA x y = true ↔ Ahd x y := lt_cmp x y
set_option maxRecDepth 20000 in
set_option maxHeartbeats 4000000 in
theorem less_any {B blk bo n c : Nat} {W : World} {d : Array Ev} (h : StE B blk bo n c W d) (_hn : n ≤ 1000000) (i j : Nat) (hi : i < n) (hj : j < n) :
    Calls Tryd.prog 29 #[.int .i64 i, .int .i64 j, .pointer (some ⟨bo, 0, none⟩)] W fun e w' => e = .returned (.bool (ltA d[i]! d[j]!)) ∧ Below W.heap.size W w' := by
  have hci := fun t ht => h.cellsAt i hi t ht
  have hcj := fun t ht => h.cellsAt j hj t ht
  have hbox := h.box
  have hsz := h.size
  generalize hx : d[i]! = x at hci
  generalize hy : d[j]! = y at hcj
  clear h
  obtain ⟨id, item, kind, qty, price, ofI, day⟩ := x
  obtain ⟨id2, item2, kind2, qty2, price2, ofI2, day2⟩ := y
  have hcall := fun w => ahead_any ⟨id, item, kind, qty, price, ofI, day⟩ ⟨id2, item2, kind2, qty2, price2, ofI2, day2⟩ w
  have HL := ltA_iff ⟨id, item, kind, qty, price, ofI, day⟩ ⟨id2, item2, kind2, qty2, price2, ofI2, day2⟩
  generalize ltA ⟨id, item, kind, qty, price, ofI, day⟩ ⟨id2, item2, kind2, qty2, price2, ofI2, day2⟩ = lv at HL
  generalize Ahd ⟨id, item, kind, qty, price, ofI, day⟩ ⟨id2, item2, kind2, qty2, price2, ofI2, day2⟩ = pp at HL hcall
  have HLL : Hid (lv = true ↔ pp) := HL
  clear HL hx hy
  unfold evV at hcall
  simp only at hcall
  have q0 := hci 0 (by omega)
  have q1 := hci 1 (by omega)
  have q2 := hci 2 (by omega)
  have q3 := hci 3 (by omega)
  have q4 := hci 4 (by omega)
  have q5 := hci 5 (by omega)
  have q6 := hci 6 (by omega)
  have r0 := hcj 0 (by omega)
  have r1 := hcj 1 (by omega)
  have r2 := hcj 2 (by omega)
  have r3 := hcj 3 (by omega)
  have r4 := hcj 4 (by omega)
  have r5 := hcj 5 (by omega)
  have r6 := hcj 6 (by omega)
  simp only [evC, List.getElem?_cons_zero, List.getElem?_cons_succ, Nat.add_zero] at q0 q1 q2 q3 q4 q5 q6 r0 r1 r2 r3 r4 r5 r6
  clear hci hcj
  obtain ⟨W0, hW⟩ : ∃ x, x = W.drew := ⟨_, rfl⟩
  have hB0 : Below W.heap.size W W0 := by rw [hW]; exact below_drew _
  have HW : Hid (W0 = _) := hW
  have cw : ∀ {p : Addr} {v : Value}, W.cell? p = some v → W0.cell? p = some v := fun {p v} hp => by rw [hW, World.cell?_drew]; exact hp
  have hU := up_ne
  have fb := fun n : Up W0 => n.cell (cw hbox)
  have f0 := fun n : Up W0 => n.cell (cw q0)
  have f1 := fun n : Up W0 => n.cell (cw q1)
  have f2 := fun n : Up W0 => n.cell (cw q2)
  have f3 := fun n : Up W0 => n.cell (cw q3)
  have f4 := fun n : Up W0 => n.cell (cw q4)
  have f5 := fun n : Up W0 => n.cell (cw q5)
  have f6 := fun n : Up W0 => n.cell (cw q6)
  have g0 := fun n : Up W0 => n.cell (cw r0)
  have g1 := fun n : Up W0 => n.cell (cw r1)
  have g2 := fun n : Up W0 => n.cell (cw r2)
  have g3 := fun n : Up W0 => n.cell (cw r3)
  have g4 := fun n : Up W0 => n.cell (cw r4)
  have g5 := fun n : Up W0 => n.cell (cw r5)
  have g6 := fun n : Up W0 => n.cell (cw r6)
  clear hW cw q0 q1 q2 q3 q4 q5 q6 r0 r1 r2 r3 r4 r5 r6 hbox
  go_enter Tryd.func29, Tryd.ntmps29
  go_wp2_with fail
  refine wp_region_mix [(true, 0), (true, 1), (true, 2), (true, 3), (true, 4), (true, 5), (true, 6), (true, 7), (false, 8), (true, 9)] (by kernel_rfl) (by kernel_rfl) ?_
  rw [← HW.out]
  repeat (refine mix_q rfl ?_; go_big_quiet_step (fail); refine wpQuiet_nil ?_)
  refine mix_n rfl ?_
  go_wp2_with fail
  refine (hcall _).mono ?_
  rintro e w1 ⟨⟨bv, rfl, hbv⟩, hb1⟩
  obtain rfl : bv = lv := by
    have := HLL.out
    rw [Bool.eq_iff_iff, this]
    exact hbv
  clear f0 f1 f2 f3 f4 f5 f6 g0 g1 g2 g3 g4 g5 g6 fb
  go_wp2_with fail
  refine ⟨rfl, hb1, ?_⟩
  repeat (refine mix_q rfl ?_; go_big_quiet_step (fail); refine wpQuiet_nil ?_)
  refine mix_nil ?_
  go_wp2
  go_ret
  exact ⟨rfl, hB0.trans (hb1.mono hB0.size)⟩
end Go.Proofs.YtppamojkhkdfpaaDoor
