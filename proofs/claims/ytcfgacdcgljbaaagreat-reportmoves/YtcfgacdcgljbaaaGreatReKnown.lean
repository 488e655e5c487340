/- The walk of report.known, and of what report.At and report.Moves hand to it. -/
import Derived.Test.YtcfgacdcgljbaaaGreatBnN
import Derived.Test.YtcfgacdcgljbaaaGreatBookAs
namespace Go.Proofs.YtcfgacdcgljbaaaGreat
open Go.RowKit Go.Shelf
set_option maxHeartbeats 2000000 in
theorem kn_any {B pb : Nat} {sv : Value} {b : Bk} {w : World} (h : BookAt w B pb sv b) (hl : b.vs.length ≤ 1000) (t : Int) (f : Nat) (lb : Array Value) (p : Ev → Bool) (ef : ∀ args w, (callFunc f args).run Tryz.prog w = .ok (.enter f args) w)
    (hf : ∀ (e : Ev) (W : World), Below w.heap.size w W → Calls Tryz.prog f (#[evV e] ++ lb) W fun r w' => r = .returned (.bool (p e)) ∧ Below W.heap.size W w') :
    Calls Tryz.prog 23 #[.pointer (some ⟨pb, 0, none⟩), .int .i64 t, .func (.func f) #[] lb] w fun r w' => ∃ v : Value, r = .returned v ∧ w'.ownsRow w.heap.size 36 7 v ((srt (asOf b (tOf b t))).filter fun e => !p e).length (((srt (asOf b (tOf b t))).filter fun e => !p e).flatMap evC) ∧ Below w.heap.size w w' := by
  have has := as_any h (by omega) t
  have hls : (srt (asOf b (tOf b t))).length ≤ 1000 := by
    rw [srt_len]
    unfold asOf
    rw [List.length_map]
    have h1 := List.length_filter_le (isAt (tOf b t)) b.vs
    omega
  obtain ⟨L, hL⟩ : ∃ L, L = srt (asOf b (tOf b t)) := ⟨_, rfl⟩
  rw [← hL] at has hls ⊢
  have HF := hidE hf
  clear h hL hf
  go_enter Tryz.func23, Tryz.ntmps23
  go_wp2_with fail
  refine has.mono ?_
  rintro r w1 ⟨v1, rfl, hown1, hb1⟩
  clear has
  obtain ⟨ad1, cp1, hv1⟩ := own_lenN hown1
  subst hv1
  have hdl := del_any L (.slice ad1 L.length cp1) w1 hown1 hls f lb p ef (fun e W hg => HF.out e W (hb1.grown hg hb1.size (fun k hk => (hown1.lt k hk).1)))
  have HB1 := hidE hb1
  have HO1 := hidE hown1
  clear hb1 hown1
  go_wp2_with fail
  refine hdl.mono ?_
  rintro r w2 ⟨v2, rfl, hown2, hg2⟩
  have HB2 : Hid (Below w.heap.size w w2) := HB1.out.grown hg2 HB1.out.size (fun k hk => (HO1.out.lt k hk).1)
  have HO2 := hidE hown2
  clear hdl hg2 hown2
  go_wp2
  go_ret
  exact ⟨v2, rfl, HO2.out, HB2.out⟩
set_option maxHeartbeats 1000000 in
theorem atBut_any (e : Ev) (n : Int) (bx : Nat) (W : World) (hc : W.cell? ⟨bx, 0, none⟩ = some (.int .i64 n)) :
    Calls Tryz.prog 24 (#[evV e] ++ #[.pointer (some ⟨bx, 0, none⟩)]) W fun r w' => r = .returned (.bool (decide (n < e.day))) ∧ Below W.heap.size W w' := by
  obtain ⟨id, item, kind, qty, price, ofI, day⟩ := e
  unfold evV
  simp only
  have hne : bx ≠ W.heap.size := by have := World.block_lt_of_cell? _ _ hc; show bx ≠ _; have h2 : bx < W.heap.size := this; omega
  have hlt : bx < W.heap.size := World.block_lt_of_cell? _ _ hc
  go_enter Tryz.func24, Tryz.ntmps24
  go_wp2
  go_ret
  exact ⟨rfl, (Below.refl _ _).alloc (Nat.le_refl _) _⟩
end Go.Proofs.YtcfgacdcgljbaaaGreat
