/- The walk of (*book.Book).write. -/
import Derived.Test.YtcfgacdcgljbaaaGreatBookMem
namespace Go.Proofs.YtcfgacdcgljbaaaGreat
open Go.RowKit
/-- A book with one more version, from its last turn on. -/
def wrB (b : Bk) (id : Int) (e : Ev) : Bk := { b with vs := b.vs ++ [⟨{ e with id := id }, b.n, 0⟩] }
set_option maxRecDepth 20000 in
set_option maxHeartbeats 4000000 in
theorem write_any {B pb : Nat} {sv : Value} {b : Bk} {w : World} (h : BookAt w B pb sv b) (hl : b.vs.length ≤ 1000000) (id : Int) (e : Ev) :
    Calls Tryz.prog 32 #[.pointer (some ⟨pb, 0, none⟩), .int .i64 id, evV e] w fun r w' => r = .returned (.tuple #[]) ∧ ∃ sv', BookAt w' B pb sv' (wrB b id e) ∧ Turned w w' pb sv ∧ Fresh w sv sv' := by
  obtain ⟨i0, hi, hz0, hz1, hz2⟩ := info_parts Tryz.infoVr
  obtain ⟨id0, item, kind, qty, price, ofI, day⟩ := e
  unfold evV
  simp only
  have hU := up_ne
  have hA := anyW_ne
  go_enter Tryz.func32, Tryz.ntmps32
  go_wp2_with fail
  refine wp_region_turn [(.pure, 0), (.pure, 1), (.pure, 2), (.pure, 3), (.read, 4), (.read, 5), (.pure, 6), (.pure, 7), (.pure, 8), (.read, 9), (.pure, 10), (.make, 11), (.turn, 12), (.pure, 13), (.pure, 14), (.turn, 15)] (by kernel_rfl) (by kernel_rfl) ?_
  obtain ⟨W0, hW⟩ : ∃ W, W = (w.alloc (.cells #[.int .i64 id, .string item, .int .i64 kind, .int .i64 qty, .int .i64 price, .int .i64 ofI, .int .i64 day] 36)).drew := ⟨_, rfl⟩
  rw [← hW]
  have hE : EvAt W0 w.heap.size ⟨id, item, kind, qty, price, ofI, day⟩ := by
    rw [hW]; constructor <;> simp
  have hB0 : Below w.heap.size w W0 := by rw [hW]; exact ((Below.refl _ _).alloc (Nat.le_refl _) _).trans ((below_drew _).mono (by simp))
  have HB := h.below hB0
  have hb2 : b.vs.length ≤ 1000000 := hl
  clear hW
  have f0 := fun n : Up W0 => (hE.up n).c0
  have f1 := fun n : Up W0 => (hE.up n).c1
  have f2 := fun n : Up W0 => (hE.up n).c2
  have f3 := fun n : Up W0 => (hE.up n).c3
  have f4 := fun n : Up W0 => (hE.up n).c4
  have f5 := fun n : Up W0 => (hE.up n).c5
  have f6 := fun n : Up W0 => (hE.up n).c6
  have g0 := fun n : Up W0 => n.cell HB.c0
  have g1 := fun n : Up W0 => n.cell HB.c1
  repeat (first | refine turn_p rfl ?_ | refine turn_q rfl ?_); go_big_quiet_step (fail); refine wpQuiet_nil ?_
  refine turn_n rfl ?_
  go_wp2_with fail
  refine ⟨rfl, (Below.refl _ _).alloc (Nat.le_refl _) _, ?_⟩
  clear f0 f1 f2 f3 f4 f5 f6 g0 g1
  refine turn_t rfl ?_
  refine wpList_append_new _ rfl _ _ 49 rfl B 63 i0 vrZ 9 80 Tryz.underlying49 hi hz0 hz1 hz2 rfl (by decide) sv _ _ rfl (HB.own.alloc _) ⟨W0.heap.size, 0, none⟩ 1 1 (vrC ⟨⟨id, item, kind, qty, price, ofI, day⟩, b.n, 0⟩) rfl rfl ?d1 ?d2 ?d3 ?d4 ?d5 (by decide) ?_
  case d1 => exact cells_of_list rfl
  case d2 => exact vrC_one _
  case d3 => unfold maxLen; omega
  case d4 => omega
  case d5 => have := HB.ge; have := HB.lt; simp; omega
  intro v' w2 hown2 hgr hfr
  obtain ⟨W1, hW1⟩ : ∃ W, W = W0.alloc (.cells (vrC ⟨⟨id, item, kind, qty, price, ofI, day⟩, b.n, 0⟩).toArray 63) := ⟨_, rfl⟩
  have hB1 : Below w.heap.size w W1 := by rw [hW1]; exact hB0.alloc hB0.size _
  have HB1 := h.below hB1
  have hgr' : W1.grownBy w2 sv.ownBlock := by rw [hW1]; exact hgr
  have e2 : w2.heap[pb]? = W1.heap[pb]? := hgr'.block pb HB1.lt (fun e => h.ne e.symm)
  have k0 : w2.cell? ⟨pb, 0, none⟩ = some sv := (World.cell?_of_block (a := ⟨pb, 0, none⟩) e2).trans HB1.c0
  have k1 : w2.cell? ⟨pb, 1, none⟩ = some (.int .i64 b.n) := (World.cell?_of_block (a := ⟨pb, 1, none⟩) e2).trans HB1.c1
  have k2 : w2.cell? ⟨pb, 2, none⟩ = some (.int .i64 b.g) := (World.cell?_of_block (a := ⟨pb, 2, none⟩) e2).trans HB1.c2
  have z0 : w2.frozen? ⟨pb, 0, none⟩ = false := (World.frozen?_of_block (a := ⟨pb, 0, none⟩) e2).trans HB1.f0
  have z1 : w2.frozen? ⟨pb, 1, none⟩ = false := (World.frozen?_of_block (a := ⟨pb, 1, none⟩) e2).trans HB1.f1
  have z2 : w2.frozen? ⟨pb, 2, none⟩ = false := (World.frozen?_of_block (a := ⟨pb, 2, none⟩) e2).trans HB1.f2
  have HO : Hid (w2.ownsRow B 63 9 v' (b.vs.length + 1) (b.vs.flatMap vrC ++ vrC ⟨⟨id, item, kind, qty, price, ofI, day⟩, b.n, 0⟩)) := hown2
  have hg2 : W1.heap.size ≤ w2.heap.size := hgr'.size
  have hfv : Fresh w sv v' := hfr.grow (by have := hB0.size; simp; omega)
  clear hown2 hgr hfr hW1
  obtain ⟨g2, cap2, hv2, hg2B, hg2l, _⟩ : ∃ g cap, v' = .slice (some ⟨g, 0, none⟩) (b.vs.length + 1) cap ∧ B ≤ g ∧ g < w2.heap.size ∧ True := by
    rcases own_form HO.out with ⟨_, hn, _⟩ | ⟨g, cap, hv, h1, h2, _⟩
    · omega
    · exact ⟨g, cap, hv, h1, h2, trivial⟩
  subst hv2
  go_wp2_with fail
  refine ⟨rfl, ?_⟩
  repeat (first | refine turn_p rfl ?_ | refine turn_q rfl ?_); go_big_quiet_step (fail); refine wpQuiet_nil ?_
  refine turn_t rfl ?_
  go_wp2_with fail
  refine ⟨rfl, ?_⟩
  refine turn_nil ?_
  have hne : Value.ownBlock (.slice (some ⟨g2, 0, none⟩) (b.vs.length + 1) cap2) ≠ some pb := fun e => by
    rcases hfv pb e with h1 | h1
    · exact h.ne h1
    · have := h.lt; omega
  have hfin := BookAt.put0 (b := b) (vs := b.vs ++ [⟨⟨id, item, kind, qty, price, ofI, day⟩, b.n, 0⟩]) k0 k1 k2 z0 z1 z2 (by simpa using HO.out) hne h.ge
  have htur : Turned w (w2.setCell ⟨pb, 0, none⟩ (.slice (some ⟨g2, 0, none⟩) (b.vs.length + 1) cap2)) pb sv :=
    ((Turned.of_below hB1).trans (grown_turned hgr') (Fresh.refl _ _)).trans (turned_set _ _ _ _ _) (Fresh.refl _ _)
  go_wp2
  go_end0
  exact ⟨rfl, _, hfin, htur, hfv⟩
end Go.Proofs.YtcfgacdcgljbaaaGreat
