/- A list of deeds that was handed in, opened. The walk of tallymankeep.small. -/
import Derived.Test.YtcfgacdcgljbaaaGreatBookAct
import Derived.Deep.Slices
import Derived.Test.YtcfgacdcgljbaaaGreatKeepAct
namespace Go.Proofs.YtcfgacdcgljbaaaGreat
open Go.ChangeShapes Go.WideShapes Go.RowKit Go.Deep Go.WideElems Go.Maps Go.Joins
/-- Deeds lie behind an address. -/
def ActsAt (w : World) (ao : Option Addr) (l : List Ac) : Prop :=
  (∀ x ∈ l, EvW x.e) ∧ (0 < l.length → ∃ b off, ao = some ⟨b, off, none⟩ ∧ b < w.heap.size ∧ ∀ k (hk : k < l.length) j, j < 9 → w.cell? ⟨b, off + k * 9 + j, none⟩ = (acC l[k])[j]?)
theorem ActsAt.below {w w' : World} {ao : Option Addr} {l : List Ac} {B : Nat} (h : ActsAt w ao l) (hb : Below B w w') (hB : w.heap.size ≤ B) : ActsAt w' ao l := by
  refine ⟨h.1, fun hp => ?_⟩
  obtain ⟨b, off, e, hlt, hc⟩ := h.2 hp
  refine ⟨b, off, e, Nat.lt_of_lt_of_le hlt hb.size, fun k hk j hj => ?_⟩
  rw [hb.cell (p := ⟨b, off + k * 9 + j, none⟩) (Nat.lt_of_lt_of_le hlt hB)]
  exact hc k hk j hj
section
variable {H : Type} {enc : TypeId × Value → H} {w : World} {base : Nat} {spare : Nat → Bool} {held : Bool}
theorem list9 {α : Type} {l : List α} (h : l.length = 9) : ∃ c0 c1 c2 c3 c4 c5 c6 c7 c8, l = [c0, c1, c2, c3, c4, c5, c6, c7, c8] := by
  match l, h with
  | [c0, c1, c2, c3, c4, c5, c6, c7, c8], _ => exact ⟨c0, c1, c2, c3, c4, c5, c6, c7, c8, rfl⟩
theorem ac_cells : Tryz.prog.cellsOf 48 = 9 := by kernel_rfl
theorem int_cells : Tryz.prog.cellsOf 3 = 1 := by kernel_rfl
theorem cells_agg7 {P : Program} {t : TypeId} {fuel : Nat} {f0 f1 f2 f3 f4 f5 f6 : Field} {cs : List Value} {x : DataW H × List MemPlace} (hs : P.underlying t = some (.struct #[f0, f1, f2, f3, f4, f5, f6])) (hone : oneCellFields P #[f0, f1, f2, f3, f4, f5, f6] = true) (hC : P.cellsOf t = 7)
    (h : DataW.trod enc P w base spare held fuel t cs = some x) :
    ∃ (v0 v1 v2 v3 v4 v5 v6 : Value) (y0 y1 y2 y3 y4 y5 y6 : DataW H × List MemPlace) (n : Nat), cs = [v0, v1, v2, v3, v4, v5, v6] ∧
      DataW.trod enc P w base spare held n f0.type [v0] = some y0 ∧ DataW.trod enc P w base spare held n f1.type [v1] = some y1 ∧ DataW.trod enc P w base spare held n f2.type [v2] = some y2 ∧ DataW.trod enc P w base spare held n f3.type [v3] = some y3 ∧
      DataW.trod enc P w base spare held n f4.type [v4] = some y4 ∧ DataW.trod enc P w base spare held n f5.type [v5] = some y5 ∧ DataW.trod enc P w base spare held n f6.type [v6] = some y6 := by
  obtain ⟨xs, n, _, _, hlen, hxl, hfs⟩ := DataW.trod_struct hs h
  obtain ⟨c0, c1, c2, c3, c4, c5, c6, rfl⟩ := list7 (hlen.trans hC)
  obtain ⟨y0, y1, y2, y3, y4, y5, y6, rfl⟩ := list7 (hxl.trans rfl)
  have g0 := hfs 0 f0 rfl
  have g1 := hfs 1 f1 rfl
  have g2 := hfs 2 f2 rfl
  have g3 := hfs 3 f3 rfl
  have g4 := hfs 4 f4 rfl
  have g5 := hfs 5 f5 rfl
  have g6 := hfs 6 f6 rfl
  obtain ⟨o0, k0⟩ := hone_of hone 0 f0 rfl
  obtain ⟨o1, k1⟩ := hone_of hone 1 f1 rfl
  obtain ⟨o2, k2⟩ := hone_of hone 2 f2 rfl
  obtain ⟨o3, k3⟩ := hone_of hone 3 f3 rfl
  obtain ⟨o4, k4⟩ := hone_of hone 4 f4 rfl
  obtain ⟨o5, k5⟩ := hone_of hone 5 f5 rfl
  obtain ⟨o6, k6⟩ := hone_of hone 6 f6 rfl
  rw [o0, k0] at g0
  rw [o1, k1] at g1
  rw [o2, k2] at g2
  rw [o3, k3] at g3
  rw [o4, k4] at g4
  rw [o5, k5] at g5
  rw [o6, k6] at g6
  exact ⟨c0, c1, c2, c3, c4, c5, c6, y0, y1, y2, y3, y4, y5, y6, n, rfl, g0, g1, g2, g3, g4, g5, g6⟩
set_option maxRecDepth 100000 in
theorem ev_of_cells {fuel : Nat} {cs : List Value} {x : DataW H × List MemPlace} (h : DataW.trod enc Tryz.prog w base spare held fuel 36 cs = some x) : ∃ e : Ev, cs = evC e ∧ EvW e := by
  obtain ⟨v0, v1, v2, v3, v4, v5, v6, y0, y1, y2, y3, y4, y5, y6, n, rfl, h0, h1, h2, h3, h4, h5, h6⟩ := cells_agg7 Tryz.underlying36 (by kernel_rfl) ev_cells h
  obtain ⟨a0, e0, _, w0⟩ := DataW.trod_int Tryz.underlying3 h0
  obtain ⟨a1, e1, _, w1⟩ := DataW.trod_string Tryz.underlying9 h1
  obtain ⟨a2, e2, _, w2⟩ := DataW.trod_int Tryz.underlying3 h2
  obtain ⟨a3, e3, _, w3⟩ := DataW.trod_int Tryz.underlying3 h3
  obtain ⟨a4, e4, _, w4⟩ := DataW.trod_int Tryz.underlying3 h4
  obtain ⟨a5, e5, _, w5⟩ := DataW.trod_int Tryz.underlying3 h5
  obtain ⟨a6, e6, _, w6⟩ := DataW.trod_int Tryz.underlying3 h6
  simp only [List.cons.injEq, and_true] at e0 e1 e2 e3 e4 e5 e6
  subst e0 e1 e2 e3 e4 e5 e6
  exact ⟨⟨a0, a1, a2, a3, a4, a5, a6⟩, rfl, ⟨w0, w1, w2, w3, w4, w5, w6⟩⟩
theorem cells_act {P : Program} {t : TypeId} {fuel : Nat} {f0 f1 f2 : Field} {cs : List Value} {x : DataW H × List MemPlace} (hs : P.underlying t = some (.struct #[f0, f1, f2])) (hC : P.cellsOf t = 9) (o0 : f0.offset = 0) (o1 : f1.offset = 1) (o2 : f2.offset = 2) (k0 : P.cellsOf f0.type = 1) (k1 : P.cellsOf f1.type = 1) (k2 : P.cellsOf f2.type = 7)
    (h : DataW.trod enc P w base spare held fuel t cs = some x) :
    ∃ (v0 v1 : Value) (r : List Value) (y0 y1 y2 : DataW H × List MemPlace) (n : Nat), cs = v0 :: v1 :: r ∧
      DataW.trod enc P w base spare held n f0.type [v0] = some y0 ∧ DataW.trod enc P w base spare held n f1.type [v1] = some y1 ∧ DataW.trod enc P w base spare held n f2.type r = some y2 := by
  obtain ⟨xs, n, _, _, hlen, hxl, hfs⟩ := DataW.trod_struct hs h
  obtain ⟨c0, c1, c2, c3, c4, c5, c6, c7, c8, rfl⟩ := list9 (hlen.trans hC)
  obtain ⟨y0, y1, y2, rfl⟩ : ∃ y0 y1 y2, xs = [y0, y1, y2] := by
    match xs, hxl with
    | [y0, y1, y2], _ => exact ⟨y0, y1, y2, rfl⟩
  have g0 := hfs 0 f0 rfl
  have g1 := hfs 1 f1 rfl
  have g2 := hfs 2 f2 rfl
  rw [o0, k0] at g0
  rw [o1, k1] at g1
  rw [o2, k2] at g2
  exact ⟨c0, c1, [c2, c3, c4, c5, c6, c7, c8], y0, y1, y2, n, rfl, g0, g1, g2⟩
set_option maxRecDepth 100000 in
theorem ac_of_cells {fuel : Nat} {cs : List Value} {x : DataW H × List MemPlace} (h : DataW.trod enc Tryz.prog w base spare held fuel 48 cs = some x) : ∃ a : Ac, cs = acC a ∧ EvW a.e := by
  obtain ⟨v0, v1, r, y0, y1, y2, n, rfl, g0, g1, g2⟩ := cells_act Tryz.underlying48 ac_cells rfl rfl rfl int_cells int_cells ev_cells h
  obtain ⟨a0, e0, _, w0⟩ := DataW.trod_int Tryz.underlying3 g0
  obtain ⟨a1, e1, _, w1⟩ := DataW.trod_int Tryz.underlying3 g1
  obtain ⟨e, he, hw⟩ := ev_of_cells g2
  simp only [List.cons.injEq, and_true] at e0 e1
  subst e0 e1
  exact ⟨⟨a0, a1, e⟩, by rw [he]; rfl, hw⟩
theorem mapM_at {α β : Type} {f : α → Option β} : ∀ {l : List α} {r : List β}, l.mapM f = some r → ∀ j (hj : j < l.length), f l[j] = r[j]?
  | [], _, _, j, hj => absurd hj (Nat.not_lt_zero _)
  | a :: l, r, h, j, hj => by
    rw [List.mapM_cons] at h
    cases ha : f a with
    | none => rw [ha] at h; cases h
    | some b =>
      rw [ha] at h
      cases hl : l.mapM f with
      | none => rw [hl] at h; cases h
      | some r' =>
        rw [hl] at h
        have e : r = b :: r' := (Option.some.inj h).symm
        subst e
        cases j with
        | zero => simpa using ha
        | succ j => simpa using mapM_at hl j (by simpa using hj)
theorem open_acts {fuel : Nat} {cs : List Value} {x : DataW H × List MemPlace} (h : DataW.trod enc Tryz.prog w 0 spare held fuel 22 cs = some x) :
    ∃ (ao : Option Addr) (cap : Nat) (l : List Ac), cs = [.slice ao l.length cap] ∧ ActsAt w ao l ∧ l.length ≤ maxLen := by
  rcases open_slice Tryz.underlying22 h with ⟨hcs, _⟩ | ⟨a, len, cap, m, n, D, Pl, hcs, _, hl, hm, hmm, _, hel⟩
  · exact ⟨none, 0, [], hcs, ⟨fun x hx => (by cases hx), fun hp => absurd hp (Nat.lt_irrefl _)⟩, Nat.zero_le _⟩
  · have hlm : len ≤ m := by rw [hmm]; split <;> omega
    have h1 : ∀ i, i < len → ∃ a' : Ac, w.cells? 0 (a.add (i * Tryz.prog.cellsOf 48)) (Tryz.prog.cellsOf 48) = some (acC a') ∧ EvW a'.e := fun i hi => by
      obtain ⟨cs', h1, h2⟩ := hel i (by omega)
      obtain ⟨a', he, hw⟩ := ac_of_cells h2
      exact ⟨a', by rw [h1, he], hw⟩
    obtain ⟨f, hf⟩ := choose_lt h1
    have hlen : ((List.range len).map f).length = len := by simp
    refine ⟨some a, cap, (List.range len).map f, by rw [hlen]; exact hcs, ⟨fun x hx => ?_, fun hp => ?_⟩, by rw [hlen]; omega⟩
    · obtain ⟨i, hi, rfl⟩ := List.mem_map.1 hx
      exact (hf i (by simpa using hi)).2
    · rw [hlen] at hp
      have cell : ∀ i, i < len → ∀ j, j < 9 → w.cell? ((a.add (i * 9)).add j) = (acC (f i))[j]? := fun i hi j hj => by
        have hc := (hf i hi).1
        rw [ac_cells] at hc
        unfold World.cells? at hc
        rw [if_pos (Nat.zero_le _)] at hc
        have := mapM_at hc j (by simpa using hj)
        simpa using this
      have hs : a.spot = none := by
        have := cell 0 hp 0 (by decide)
        cases hsp : a.spot with
        | none => rfl
        | some s =>
          simp [World.cell?, Addr.add, hsp, acC] at this
          split at this <;> simp at this
      obtain ⟨b, off, sp⟩ := a
      simp only at hs
      subst hs
      have hb : b < w.heap.size := by
        have := cell 0 hp 0 (by decide)
        simp only [acC, List.getElem?_cons_zero, Addr.add_lit] at this
        exact World.block_lt_of_cell? _ _ this
      refine ⟨b, off, rfl, hb, fun k hk j hj => ?_⟩
      have := cell k (by rw [hlen] at hk; exact hk) j hj
      rw [Addr.add_lit, Addr.add_lit] at this
      rw [this]
      simp
end
end Go.Proofs.YtcfgacdcgljbaaaGreat
namespace Go.Proofs.YtcfgacdcgljbaaaGreat
open Go.RowKit
/-- It tells a Bool: true only where there are at most n. -/
def AtMost (n : Nat) (l : List Ac) (e : Ending) : Prop := ∃ bb : Bool, e = .returned (.bool bb) ∧ (bb = true → l.length ≤ n)
set_option maxRecDepth 20000 in
set_option maxHeartbeats 2000000 in
theorem small_any (l : List Ac) (ao : Option Addr) (cap : Nat) (w : World) (h : ActsAt w ao l) (hm : l.length ≤ maxLen) :
    Calls Tryz.prog 4 #[.slice ao l.length cap] w fun e w' => AtMost 40 l e ∧ w' = w := by
  unfold maxLen at hm
  by_cases h40 : l.length ≤ 40
  · have hnn : ¬ (40 : Int) < (l.length : Int) := by omega
    go_enter Tryz.func4, Tryz.ntmps4
    go_wp2
    go_loop [3] (fun i => ∃ k : Nat, k ≤ l.length ∧ i = .int .i64 k) (fun i => l.length - (intOf i).toNat)
    case atStart => exact ⟨0, Nat.zero_le _, rfl⟩
    case round =>
      obtain ⟨k, hk, rfl⟩ := hrel
      by_cases hlt : k < l.length
      · obtain ⟨b, off, rfl, hb, hc⟩ := h.2 (by omega)
        have hcx := hc k hlt 3 (by decide)
        simp only [acC, List.getElem?_cons_zero, List.getElem?_cons_succ] at hcx
        have hs : l[k].e.item.size ≤ maxLen := (h.1 _ (List.getElem_mem hlt)).item
        generalize l[k].e.item = s at hcx hs
        unfold maxLen at hs
        have hkz : (k : Int) < (l.length : Int) := by omega
        clear hc h
        by_cases h60 : 60 < s.size
        · go_wp2
          go_ret
          exact ⟨⟨false, rfl, fun h => (by cases h)⟩, rfl⟩
        · go_wp2
          go_round
          case rel => exact ⟨k + 1, by omega, by go_num⟩
          case measure => simp [intOf]; omega
      · go_wp2
        go_ret
        exact ⟨⟨true, rfl, fun _ => h40⟩, rfl⟩
  · have hnn : (40 : Int) < (l.length : Int) := by omega
    go_enter Tryz.func4, Tryz.ntmps4
    go_wp2
    go_ret
    exact ⟨⟨false, rfl, fun h => (by cases h)⟩, rfl⟩
end Go.Proofs.YtcfgacdcgljbaaaGreat
