/- The walk of (cost.Result).Sum; a look-up in its Layers. -/
import Derived.Test.YtcfgacdcgljbaaaGreatCoRun
namespace Go.Proofs.YtcfgacdcgljbaaaGreat
open Go.RowKit Go.Maps
theorem zero_lays (w : World) : (zeroValue 77).run Tryz.prog w = .ok (.slice none 0 0) w := by kernel_rfl
/-- What a look-up in Layers gives. -/
theorem RunRes.look {B : Nat} {W : World} {mb n : Nat} {D : DataW Value} {V : ByteArray → Value} {M : Stks} {u : Value} {ls : List Lin} (h : RunRes B W mb n D V M u ls) (x : ByteArray) (hx : x.size ≤ maxLen) :
    ∃ v, (Instr.lookup 67 (.map (some mb)) (.string x) false).run Tryz.prog W = .ok v W ∧ LayAt W v (M x).ys := by
  obtain ⟨v, ps, h1, h2⟩ := h.map.lookup law_strT Tryz.underlying67 (zero_lays W) (zd := .held (.slice none 0 0)) (zp := []) rfl (key_str x hx)
  have h3 := heldE_inv h2
  refine ⟨v, h1, ?_⟩
  by_cases e : (M x).ys = []
  · rw [atKey_of_not_has (h.no x e)] at h3
    rw [← held_inj h3, e]
    exact LayAt.nil W
  · rw [h.yes x e] at h3
    rw [← held_inj h3]
    exact h.lay x
set_option maxHeartbeats 1000000 in
theorem Sum_any {B : Nat} {W : World} {rv : Value} {M : Stks} {ls : List Lin} {n : Nat} (h : ResAt B W rv M ls) (x : ByteArray) (hx : x.size ≤ maxLen) (ok : StkOK n (M x)) (hn : n ≤ 10000) :
    Calls Tryz.prog 27 #[rv, .string x] W fun e w' => e = .returned (.tuple #[.int .i64 (sumQ (M x).ys), .int .i64 (sumV (M x).ys)]) ∧ Below W.heap.size W w' := by
  obtain ⟨u, mb, k, D, V, rfl, _, _, hR⟩ := h
  obtain ⟨W0, hW0⟩ : ∃ w', w' = W.alloc (.cells #[u, .map (some mb)] 69) := ⟨_, rfl⟩
  have hB0 : Below W.heap.size W W0 := by rw [hW0]; exact (Below.refl _ _).alloc (Nat.le_refl _) _
  obtain ⟨v, h1, h2⟩ := (hR.below hB0).look x hx
  have hs := sum_any (M x).ys v W0 h2 ok.ok (by have := ok.q; omega) (by have := ok.v; omega) (by have := ok.len; omega)
  obtain ⟨ad, n', cp, hu⟩ := own_len' hR.own
  obtain ⟨ad2, n2, cp2, hv⟩ := h2.slice
  subst hu
  subst hv
  have HW0 : Hid (W0 = _) := hW0
  rw [hW0] at h1
  clear h2 hR hW0
  go_enter Tryz.func27, Tryz.ntmps27
  go_wp2_with fail
  rw [← HW0.out]
  refine hs.mono ?_
  rintro e w1 ⟨rfl, hb⟩
  go_wp2
  go_ret2
  exact ⟨rfl, hB0.trans (hb.mono hB0.size)⟩
end Go.Proofs.YtcfgacdcgljbaaaGreat
