/- Two maps of texts to pairs that tell the same: the walk of tallymankeep.ReportDiffs' 'same'. -/
import Derived.Test.YtcfgacdcgljbaaaBnP
namespace Go.Proofs.Ytcfgacdcgljbaaa
open Go.RowKit Go.Maps
set_option maxRecDepth 20000 in
set_option maxHeartbeats 2000000 in
theorem samep_any {w : World} {m1 m2 n1 n2 : Nat} {D1 D2 : DataW Value} {q v : ByteArray → Int} {dom : ByteArray → Prop} (h1 : PMap w m1 n1 D1 q v dom) (h2 : PMap w m2 n2 D2 q v dom) :
    Calls Try.prog 14 #[.map (some m1), .map (some m2)] w fun r w' => r = .returned (.bool true) ∧ Below w.heap.size w w' := by
  have hl1 := fun ty => h1.map.len Try.underlying29 ty
  have hl2 := fun ty => h2.map.len Try.underlying29 ty
  rw [pmap_size h1 h2] at hl1
  have H1 := hidE h1
  have H2 := hidE h2
  clear h1 h2
  go_enter Try.func14, Try.ntmps14
  go_wp2_with (first
    | (at_range; refine wpList_range_own _ rfl _ 29 rfl 9 30 law_strT Try.underlying29 heldE m1 n1 D1 rfl H1.out.map ?_)
    | go_in)
  intro wR hrg0 hg0 hsR
  have HG0 : Hid (wR.ranges Try.prog 9 heldE m1 w.heap.size n1 D1 (Maps.has D1) (Maps.size D1)) := hrg0
  have HBR : Hid (Below w.heap.size w wR) := ⟨hg0.os, hg0.tape, hg0.output, hg0.size, fun j hj => hg0.block j hj (by simp)⟩
  clear hrg0 hg0 hl1 hl2
  go_wp2
  go_loopw [] (fun wr => ∃ (left : Lit → Bool) (cnt : Nat), Hid (wr.ranges Try.prog 9 heldE m1 w.heap.size n1 D1 left cnt) ∧ Hid (Below w.heap.size w wr)) (fun wr => wr.rangeLeft m1 w.heap.size)
  case atStart => exact ⟨_, _, HG0, HBR⟩
  case round =>
    obtain ⟨left, cnt, HR, HBr⟩ := hrel
    go_wp2_with (at_next; refine wpList_next_ranges _ rfl _ rfl 9 law_strT heldE Value.string (fun c : Value => c) (fun key kl hkey => by obtain ⟨s, hs⟩ := Maps.keyOf_string_inv Try.underlying9 hkey; exact ⟨s, hs⟩) (fun v y _ => ⟨v, rfl⟩) m1 w.heap.size n1 D1 left cnt rfl HR.out ?_ ?_)
    · intro hc0 hl0
      clear hc0 hl0
      go_wp2
      go_ret
      exact ⟨rfl, HBr.out⟩
    · intro x c kl yd yp w2 cnt2 hkey hlk hcv hat hrg2 hlt2 hgr2 hsz2 hen
      obtain ⟨rfl, hxs⟩ := keyP_inv hkey
      have hcx : c = prV (q x) (v x) := by
        have h1 := hat (.held (prV 0 0))
        rw [H1.out.at_ x, heldE_inv hcv] at h1
        exact (held_inj h1).symm
      subst hcx
      have hB2 : Below w.heap.size w w2 := HBr.out.grown hgr2 (by have := HR.out.lt; omega) (fun j hj => by cases hj; omega)
      have HR2 : Hid (w2.ranges Try.prog 9 heldE m1 w.heap.size n1 D1 (fun z => left z && !z.sameKey (keyB x)) cnt2) := hrg2
      have HLV : Hid (wr.rangeLeft m1 w.heap.size = cnt) := HR.out.left_eq
      have hB3 : Below w.heap.size w (w2.alloc (.cells #[.int .i64 (q x), .int .i64 (v x)] 30)) := hB2.alloc hB2.size _
      have hlk2 := (H2.out.below hB3).look x hxs
      have HB2 := hidE hB3
      have HSZ := hidE hsz2
      have heq := eq_pr
      clear hsz2
      unfold prV at hlk2 hen ⊢
      generalize q x = qx at hlk2 hen HB2 ⊢
      generalize v x = vx at hlk2 hen HB2 ⊢
      clear hrg2 hat hcv hlk hkey hgr2 hB2 hB3
      go_wp2
      go_roundw
      case rel => exact ⟨_, cnt2, HR2.out.alloc _, HB2⟩
      case measure =>
        rw [HLV.out, (HR2.out.alloc _).left_eq]
        exact hlt2
end Go.Proofs.Ytcfgacdcgljbaaa
