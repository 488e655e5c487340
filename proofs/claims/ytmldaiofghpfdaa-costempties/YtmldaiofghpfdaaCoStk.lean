/- A stock in memory; the walks of put, take, charge, count, do at it. -/
import Derived.Test.YtmldaiofghpfdaaCoWorth
namespace Go.Proofs.Ytmldaiofghpfdaa
open Go.RowKit
/-- A stock lies in block pb, its layers in a row of their own (the slice sv). -/
structure StkAt (w : World) (pb : Nat) (sv : Value) (s : Stk) : Prop where
  c0 : w.cell? ⟨pb, 0, none⟩ = some sv
  c1 : w.cell? ⟨pb, 1, none⟩ = some (.int .i64 s.price)
  f0 : w.frozen? ⟨pb, 0, none⟩ = false
  f1 : w.frozen? ⟨pb, 1, none⟩ = false
  lay : LayAt w sv s.ys
  ne : sv.ownBlock ≠ some pb
theorem StkAt.lt {w : World} {pb : Nat} {sv : Value} {s : Stk} (h : StkAt w pb sv s) : pb < w.heap.size := World.block_lt_of_cell? _ _ h.c0
theorem StkAt.below {w w' : World} {pb : Nat} {sv : Value} {s : Stk} (h : StkAt w pb sv s) (hb : Below w.heap.size w w') : StkAt w' pb sv s :=
  ⟨below_cell hb h.c0, below_cell hb h.c1, (hb.frozen (p := ⟨pb, 0, none⟩) h.lt).trans h.f0, (hb.frozen (p := ⟨pb, 1, none⟩) h.lt).trans h.f1, h.lay.below hb, h.ne⟩
theorem LayAt.setBox {w : World} {sv : Value} {pb o : Nat} {u : Value} {ys : List Lay} (h : LayAt w sv ys) (ne : sv.ownBlock ≠ some pb) : LayAt (w.setCell ⟨pb, o, none⟩ u) sv ys :=
  h.kept fun k hk => Below.heap_setCell _ _ _ _ (fun e => ne (by rw [hk, e]))
theorem StkAt.put0 {w : World} {pb : Nat} {sv sv' : Value} {s : Stk} {ys : List Lay} (c0 : w.cell? ⟨pb, 0, none⟩ = some sv) (c1 : w.cell? ⟨pb, 1, none⟩ = some (.int .i64 s.price)) (f0 : w.frozen? ⟨pb, 0, none⟩ = false) (f1 : w.frozen? ⟨pb, 1, none⟩ = false) (l : LayAt w sv' ys) (ne : sv'.ownBlock ≠ some pb) :
    StkAt (w.setCell ⟨pb, 0, none⟩ sv') pb sv' ⟨ys, s.price⟩ :=
  ⟨set_same c0, (set_other (by simp)).trans c1, set_frz.trans f0, set_frz.trans f1, l.setBox ne, ne⟩
theorem StkAt.put1 {w : World} {pb : Nat} {sv : Value} {s : Stk} (h : StkAt w pb sv s) (p : Int) : StkAt (w.setCell ⟨pb, 1, none⟩ (.int .i64 p)) pb sv ⟨s.ys, p⟩ :=
  ⟨(set_other (by simp)).trans h.c0, set_same h.c1, set_frz.trans h.f0, set_frz.trans h.f1, h.lay.setBox h.ne, h.ne⟩
def layZ : Value := .agg #[.int .i64 0, .int .i64 0, .int .i64 0]
theorem Try.infoLay : (Try.prog.info? 44).map (fun i => (i.zero, i.size, i.bytes)) = some (some layZ, 3, 24) := by kernel_rfl
/-- The stock behind what has turned its row alone. -/
theorem StkAt.grown {w w' : World} {pb : Nat} {sv sv' : Value} {s : Stk} {ys : List Lay} (h : StkAt w pb sv s) (hg : w.grownBy w' sv.ownBlock) (l : LayAt w' sv' ys) (hf : Fresh w sv sv') :
    StkAt (w'.setCell ⟨pb, 0, none⟩ sv') pb sv' ⟨ys, s.price⟩ ∧ w'.cell? ⟨pb, 0, none⟩ = some sv ∧ w'.frozen? ⟨pb, 0, none⟩ = false := by
  have e2 : w'.heap[pb]? = w.heap[pb]? := hg.block pb h.lt (fun e => h.ne e.symm)
  have k0 : w'.cell? ⟨pb, 0, none⟩ = some sv := (World.cell?_of_block (a := ⟨pb, 0, none⟩) e2).trans h.c0
  have k1 : w'.cell? ⟨pb, 1, none⟩ = some (.int .i64 s.price) := (World.cell?_of_block (a := ⟨pb, 1, none⟩) e2).trans h.c1
  have z0 : w'.frozen? ⟨pb, 0, none⟩ = false := (World.frozen?_of_block (a := ⟨pb, 0, none⟩) e2).trans h.f0
  have z1 : w'.frozen? ⟨pb, 1, none⟩ = false := (World.frozen?_of_block (a := ⟨pb, 1, none⟩) e2).trans h.f1
  have ne' : sv'.ownBlock ≠ some pb := fun e => by
    rcases hf pb e with x | x
    · exact h.ne x
    · have := h.lt; omega
  exact ⟨StkAt.put0 k0 k1 z0 z1 l ne', k0, z0⟩
set_option maxHeartbeats 1000000 in
theorem put_does {pb : Nat} {sv : Value} {s : Stk} {w : World} (h : StkAt w pb sv s) (hl : s.ys.length ≤ 1000000) (id q : Int) (hq : 0 ≤ q) (hq' : q ≤ 100000) (hp : 0 ≤ s.price ∧ s.price ≤ 1000000) :
    Calls Try.prog 25 #[.pointer (some ⟨pb, 0, none⟩), .int .i64 id, .int .i64 q] w fun r w' => r = .returned (.int .i64 (q * s.price)) ∧ ∃ sv', StkAt w' pb sv' ⟨s.ys ++ [⟨id, q, q * s.price⟩], s.price⟩ ∧ Turned w w' pb sv ∧ Fresh w sv sv' := by
  obtain ⟨i0, hi, hz0, hz1, hz2⟩ := info_parts Try.infoLay
  have c0 := h.c0
  have c1 := h.c1
  have m := mul_bound hq hq' hp.1 hp.2
  have HH : Hid (StkAt w pb sv s) := h
  clear h
  go_enter Try.func25, Try.ntmps25
  go_wp2_with (first
    | (at_builtin; refine wpList_append_lay _ rfl _ _ 41 rfl i0 layZ Try.underlying41 hi hz0 hz1 hz2 rfl sv s.ys rfl (HH.out.lay.below ((Below.refl _ _).alloc (Nat.le_refl _) _)) hl ⟨w.heap.size, 0, none⟩ 1 ⟨id, q, q * s.price⟩ rfl (cells_of_list rfl) ?_)
    | go_in)
  intro v' w2 l2 hgr hfr
  obtain ⟨ad', nn, cap', hv'⟩ := l2.slice
  subst hv'
  have hB1 : Below w.heap.size w (w.alloc (.cells (layC ⟨id, q, q * s.price⟩).toArray 44)) := (Below.refl _ _).alloc (Nat.le_refl _) _
  have H1 := HH.out.below hB1
  obtain ⟨k1, k0, z0⟩ := H1.grown hgr l2 hfr
  have K1 : Hid (StkAt (w2.setCell ⟨pb, 0, none⟩ (.slice ad' nn cap')) pb (.slice ad' nn cap') ⟨s.ys ++ [⟨id, q, q * s.price⟩], s.price⟩) := k1
  have HT : Hid (Turned w w2 pb sv) := (Turned.of_below hB1).trans (grown_turned hgr) (Fresh.refl _ _)
  have HF : Hid (Fresh w sv (.slice ad' nn cap')) := hfr.grow hB1.size
  clear k1 hgr hfr l2 H1 hB1 c0 c1
  go_wp2
  go_ret
  exact ⟨rfl, _, K1.out, HT.out.trans (turned_set _ _ _ sv _) (Fresh.refl _ _), HF.out⟩
end Go.Proofs.Ytmldaiofghpfdaa
