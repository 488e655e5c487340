/- The walk of slices.Reverse at events: the same events, in some order. -/
import Derived.Test.YtgjjfeimgbibjaaKpApartM
namespace Go.Proofs.Ytgjjfeimgbibjaa
open Go.RowKit
open Go.Sort hiding Below
open Go.Shelf Go.Lib
section
variable {P : Program} {kk : Nat} {w0 : World} {blk off n : Nat}
set_option maxRecDepth 20000 in
set_option maxHeartbeats 4000000 in
theorem cs_reverse (L : CsP P kk) (hF : P.funcs[20]? = some Try.f20) (hkk : kk = 7) (h0 : Cs0 w0 blk off n) (d : Array EvN) (w : World) (h : Cs w0 blk off n w d) (cap q : Nat) (h2 : q ≤ n) (hn : n ≤ 1000000) :
    Calls P 20 #[.slice (some ⟨blk, off, none⟩) q cap] w fun e w' => e = .returned (.tuple #[]) ∧ ∃ d', Cs w0 blk off n w' d' ∧ PermIn 0 n d d' := by
  have hsz := h.size
  have mixed := L.mixed; have t0 := L.t0; have a0 := L.a0; have z0 := L.z0; have v0 := L.v0; have tI := L.tI; have aI := L.aI; have zI := L.zI; have vI := L.vI; have tB := L.tB; have aB := L.aB; have zB := L.zB; have vB := L.vB; have tL := L.tL; have aL := L.aL; have zL := L.zL; have vL := L.vL; have aE := L.aE; have zE := L.zE; have uL := run_underlying L.tL
  have H : Hid (Cs w0 blk off n w d) := h
  clear h
  have HKK : Hid (kk = 7) := hkk
  clear hkk
  go_enter hF, Try.ntmps20
  go_wp2
  go_loopw [2, 3] (fun i j wr => ∃ (k : Nat) (e : Array EvN), k ≤ q ∧ i = .int .i64 k ∧ j = .int .i64 ((q : Int) - 1 - (k : Int)) ∧ Hid (Cs w0 blk off n wr e) ∧ Hid (PermIn 0 n d e)) (fun i _ _ => q - (intOf i).toNat)
  case atStart => exact ⟨0, d, Nat.zero_le _, rfl, by go_num, H, permIn_refl _ _ _⟩
  case round =>
    obtain ⟨k, e, hk, rfl, rfl, HS, HP⟩ := hrel
    by_cases hlt : (k : Int) < (q : Int) - 1 - (k : Int)
    · have hes := HS.out.size
      obtain ⟨b, hb⟩ : ∃ b, b = q - 1 - k := ⟨_, rfl⟩
      have eb : (q : Int) - 1 - (k : Int) = (b : Int) := by omega
      rw [eb] at hlt
      rw [eb]
      obtain ⟨cX, cY, W1, W2, l1, l2, e1, e2, s1, s2, hc⟩ := HS.out.exch h0 HKK.out P k b (by omega) (by omega)
      have HC : Hid (Cs w0 blk off n W2 (swp e k b)) := hc
      have HP' : Hid (PermIn 0 n d (swp e k b)) := permIn_trans _ _ _ _ _ HP.out (swp_permIn e 0 n k b (by omega) (by omega) (by omega) (by omega) (by omega))
      have HE : Hid ((q : Int) - 1 - ((k + 1 : Nat) : Int) = (b : Int) - 1) := by show _ = _; omega
      clear hc
      have qa : (k : Int) < (q : Int) := by omega
      have qb : (b : Int) < (q : Int) := by omega
      clear eb hb
      go_wp2_with fail
      go_big_region_o
      all_goals go_wp2
      go_roundw
      case rel => exact ⟨k + 1, _, by omega, by go_num, by rw [HE.out], HC, HP'⟩
      case measure => simp [intOf]; omega
    · go_wp2
      go_end0
      exact ⟨rfl, e, HS.out, HP.out⟩
end
theorem rev_any {B : Nat} {c : List Ev} {g cap cap' q : Nat} {w : World} (h : w.ownsRow B 30 7 (.slice (some ⟨g, 0, none⟩) c.length cap) c.length (c.flatMap evC)) (hg : g < w.heap.size) (hq : q ≤ c.length) (hl : c.length ≤ 1000) :
    Calls Try.prog 20 #[.slice (some ⟨g, 0, none⟩) q cap'] w fun e w' => e = .returned (.tuple #[]) ∧ ∃ c' : List Ev, c'.Perm c ∧ w'.ownsRow B 30 7 (.slice (some ⟨g, 0, none⟩) c.length cap) c.length (c'.flatMap evC) ∧ w.grownBy w' (some g) := by
  have hH : HoldsK encP 7 w g 0 c.zipIdx.toArray := holdsK_of_own (T := 30) (B := B) (n := c.length) (cap := cap) encP_len (by rw [zip_flat]; exact h)
  have hz : c.zipIdx.toArray.size = c.length := by simp
  have h0 : Cs0 w g 0 c.length := ⟨⟨_, hz, hH⟩, hg⟩
  have h1 : Cs w g 0 c.length w c.zipIdx.toArray := ⟨hz, 0, #[], by unfold sortWorldK; rw [grow_empty]; exact (putRowK_self encP 7 w g 0 _ hH).symm⟩
  refine (cs_reverse csP Try.func20 rfl h0 _ w h1 cap' q hq (by omega)).mono ?_
  rintro e w' ⟨rfl, d', hc, hp⟩
  have hs' : d'.size = c.length := hc.size
  obtain ⟨_, m, os, hw⟩ := hc
  have hpm := permP (d := c.zipIdx.toArray) (d' := d') (by simpa using hp)
  refine ⟨rfl, d'.toList.map (·.1), ?_, ?_, ?_⟩
  · have := hpm.map (·.1)
    simpa using this
  · rw [← map_flat, hw]
    have := own_sorted (q := m) (os := os) (l' := d'.toList) (l := c.zipIdx) encP_len (by rw [zip_flat]; exact h) (by simp [hs'])
    rw [Array.toArray_toList] at this
    exact this
  · rw [hw]
    exact grown_sorted _
end Go.Proofs.Ytgjjfeimgbibjaa
