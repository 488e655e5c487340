/- The walk of tallymankeep.kept: a fact. The walks of slices.IndexFunc and slices.ContainsFunc at texts, and of tallymankeep.lines. -/
import Derived.Test.YtdkhohlhdiekmaaGreatDoorBnKm
import Derived.Test.YtdkhohlhdiekmaaGreatDoorBnJs
import Derived.Test.YtdkhohlhdiekmaaGreatDoorBnAl
import Derived.WalkSmall
namespace Go.Proofs.YtdkhohlhdiekmaaGreatDoor
open Go.RowKit
theorem kt1 : ba k1 = ⟨#[112, 111, 115, 116, 32, 49, 57, 48, 48, 45, 48, 49, 45, 48, 50, 32, 105, 110, 32, 110, 97, 105, 108, 32, 51, 32, 97, 116, 32, 48, 46, 53, 48]⟩ := rfl
theorem kt2 : ba k2 = ⟨#[99, 108, 111, 115, 101, 32, 49, 57, 48, 48, 45, 48, 49]⟩ := rfl
theorem kt3 : ba k3 = ⟨#[99, 111, 114, 114, 101, 99, 116, 32, 49, 32, 49, 57, 48, 48, 45, 48, 49, 45, 48, 51, 32, 105, 110, 32, 110, 97, 105, 108, 32, 52, 32, 97, 116, 32, 48, 46, 53, 48]⟩ := rfl
theorem kr1 : ba (tPosted ++ [49]) = ⟨#[112, 111, 115, 116, 101, 100, 32, 49]⟩ := rfl
theorem kr2 : ba (tClosed ++ [49]) = ⟨#[99, 108, 111, 115, 101, 100, 32, 49]⟩ := rfl
theorem kr3 : ba (tCorrected ++ tLate) = ⟨#[99, 111, 114, 114, 101, 99, 116, 101, 100, 32, 108, 97, 116, 101]⟩ := rfl
theorem k_ok1 : HsOk ⟨kb1, [], [k1]⟩ := by
  have := do_keeps k1 ok_zero (by decide)
  rw [do1] at this
  exact this
theorem k_ok2 : HsOk ⟨kb1, kc, [k1, k2]⟩ := by
  have := do_keeps k2 k_ok1 (by decide)
  rw [do2] at this
  exact this
set_option maxRecDepth 20000 in
set_option maxHeartbeats 8000000 in
theorem kept_any (w : World) (hg : GlobH w) : Calls Tryz.prog 18 #[] w fun e w' => e = .returned (.bool true) ∧ Below w.heap.size w w' := by
  obtain ⟨W0, hW0⟩ : ∃ W, W = w.alloc (.cells #[.slice none 0 0, .int .i64 0, .int .i64 0, .slice none 0 0, .string ⟨#[]⟩, .int .i64 0] 31) := ⟨_, rfl⟩
  have hA0 : HsAt W0 w.heap.size w.heap.size (.slice none 0 0) (.slice none 0 0) hs0 := by rw [hW0]; exact house_new w _ (Nat.le_refl _)
  have hB0 : Below w.heap.size w W0 := by rw [hW0]; exact (Below.refl _ _).alloc (Nat.le_refl _) _
  have gr0 : Ground w.heap.size W0 := ⟨w, hg, Nat.le_refl _, hB0⟩
  have hd1 := do_any hA0 ok_zero (by decide) gr0 k1 (by decide)
  rw [do1, kt1] at hd1
  have HG := hidE hg
  have HW0 : Hid (W0 = _) := hW0
  have HA0 := hidE hA0
  clear hW0 hg hA0 gr0
  go_enter Tryz.func18, Tryz.ntmps18
  go_wp2_with fail
  rw [← HW0.out]
  refine hd1.mono ?_
  rintro x w1 ⟨sv1, cv1, rfl, hA1, hT1⟩
  have hB1 := hT1.below HA0.out hB0 hB0.size
  have hd2 := do_any hA1 k_ok1 (by decide) ⟨w, HG.out, Nat.le_refl _, hB1⟩ k2 (by decide)
  rw [do2, kt2] at hd2
  rw [kr1, show errV 0 = Value.nilIface from rfl]
  have HA1 := hidE hA1
  clear hd1 hA1 hT1 hB0 HW0 HA0
  go_wp2_with fail
  refine hd2.mono ?_
  rintro x w2 ⟨sv2, cv2, rfl, hA2, hT2⟩
  have hB2 := hT2.below HA1.out hB1 hB1.size
  rw [kr2, show errV 0 = Value.nilIface from rfl]
  have hj := journal_any hA2
  clear hd2 hA2 hT2 hB1 HA1
  go_wp2_with fail
  refine hj.mono ?_
  rintro x w3 ⟨rfl, hw3⟩
  subst w3
  have hrd : Rd 0 (framesL 0 [k1, k2]) [k1, k2] := read_frames [k1, k2] 0 (by decide) (fun t ht => by simp at ht; rcases ht with rfl | rfl <;> decide)
  have hsz : (ba (framesL 0 [k1, k2])).size ≤ 100000 := by rw [ba_size, frames_len]; decide
  have hre := restore_any (ba (framesL 0 [k1, k2])) [k1, k2] w2 (HG.out.below hB2) hsz (by rw [ba_data]; exact hrd)
  clear hj hrd hsz
  go_wp2_with fail
  refine hre.mono ?_
  rintro x w4 ⟨⟨_, ph, sv4, cv4, rfl, hA4⟩ | ⟨hng, _⟩, hb4⟩
  rotate_left
  · exact absurd k_good.1 hng
  rw [k_good.2] at hA4
  have hB4 : Below w.heap.size w w4 := hB2.trans (hb4.mono hB2.size)
  have hd3 := do_any hA4 k_ok2 (by decide) ⟨w2, HG.out.below hB2, Nat.le_refl _, hb4⟩ k3 (by decide)
  rw [kt3] at hd3
  have HA4 := hidE hA4
  have HB4 := hidE hb4
  clear hre hA4 hb4
  go_wp2_with fail
  refine hd3.mono ?_
  rintro x w5 ⟨sv5, cv5, rfl, hA5, hT5⟩
  have hB5 : Below w.heap.size w w5 := hB2.trans ((hT5.below HA4.out HB4.out HB4.out.size).mono hB2.size)
  rw [do3.1, do3.2, kr3, show errV 0 = Value.nilIface from rfl]
  clear hd3 hA5 hT5 HA4 HB4
  go_wp2
  go_ret
  exact ⟨rfl, hB5⟩
end Go.Proofs.YtdkhohlhdiekmaaGreatDoor
namespace Go.Proofs.YtdkhohlhdiekmaaGreatDoor
open Go.RowKit Go.Shelf
/-- Where the first one is that is meant. -/
def FoundS (p : List UInt8 → Bool) (l : List (List UInt8)) (i : Int) : Prop := (i = -1 ∧ ∀ t ∈ l, p t = false) ∨ (0 ≤ i ∧ ∃ t ∈ l, p t = true)
set_option maxHeartbeats 2000000 in
theorem idx_str (l : List (List UInt8)) (ao : Option Addr) (cap : Nat) (w : World) (h : StrsC w ao l) (hl : l.length ≤ 1000000) (f : Nat) (p : List UInt8 → Bool) (ef : ∀ args w, (callFunc f args).run Tryz.prog w = .ok (.enter f args) w)
    (hf : ∀ (t : List UInt8) (W : World), t ∈ l → Calls Tryz.prog f #[encS t] W fun r w' => r = .returned (.bool (p t)) ∧ w' = W) :
    Calls Tryz.prog 79 #[.slice ao l.length cap, .func (.func f) #[] #[]] w fun r w' => ∃ i : Int, r = .returned (.int .i64 i) ∧ FoundS p l i ∧ Below w.heap.size w w' := by
  have HF : Hid (∀ (t : List UInt8) (W : World), t ∈ l → Calls Tryz.prog f #[encS t] W fun r w' => r = .returned (.bool (p t)) ∧ w' = W) := hf
  have HL : Hid (StrsC w ao l) := h
  clear hf h
  go_enter Tryz.func79, Tryz.ntmps79
  go_wp2
  go_loopw [8] (fun i wr => ∃ k : Nat, k ≤ l.length ∧ i = .int .i64 k ∧ Hid (∀ j (hj : j < l.length), j < k → p l[j] = false) ∧ Below w.heap.size w wr) (fun i _ => l.length - (intOf i).toNat)
  case atStart => exact ⟨0, Nat.zero_le _, rfl, fun j _ hj => absurd hj (Nat.not_lt_zero _), Below.refl _ _⟩
  case round =>
    obtain ⟨k, hk, rfl, HN, hb⟩ := hrel
    by_cases hlt : k < l.length
    · obtain ⟨b, o, e1, lt1, c1⟩ := HL.out.below hb (by omega)
      subst e1
      have d1 := c1 k hlt
      have hcall := HF.out l[k] wr (List.getElem_mem hlt)
      generalize hpv : p l[k] = pv at hcall
      have HPV : Hid (p l[k] = pv) := hpv
      obtain ⟨t, ht⟩ : ∃ t, t = l[k] := ⟨_, rfl⟩
      have HTM : Hid (l[k] = t) := ht.symm
      rw [← ht] at d1 hcall
      unfold encS at d1 hcall
      clear hpv c1 ht
      go_wp2_with fail
      refine hcall.mono ?_
      rintro e w1 ⟨rfl, hw1⟩
      subst w1
      clear hcall d1
      cases pv with
      | true =>
        go_wp2
        go_ret
        exact ⟨k, rfl, Or.inr ⟨by omega, l[k], List.getElem_mem hlt, HPV.out⟩, hb⟩
      | false =>
        go_wp2
        go_roundw
        case rel =>
          refine ⟨k + 1, by omega, by go_num, fun j hj hjk => ?_, hb⟩
          rcases Nat.lt_or_eq_of_le (Nat.le_of_lt_succ hjk) with x | x
          · exact HN.out j hj x
          · subst x; exact HPV.out
        case measure => simp [intOf]; omega
    · obtain rfl : k = l.length := by omega
      go_wp2
      go_ret
      exact ⟨-1, rfl, Or.inl ⟨rfl, fun t ht => by
        obtain ⟨j, hj, rfl⟩ := List.getElem_of_mem ht
        exact HN.out j hj hj⟩, hb⟩
theorem long_any (t : List UInt8) (W : World) (_ : t.length ≤ maxLen) : Calls Tryz.prog 38 #[encS t] W fun r w' => r = .returned (.bool (decide (250 < t.length))) ∧ w' = W := by
  have hz : (ba t).size = t.length := ba_size t
  unfold encS
  have HE : Hid (decide ((250 : Int) < ((t.length : Nat) : Int)) = decide (250 < t.length)) := by show _ = _; rw [decide_eq_decide]; omega
  go_enter Tryz.func38, Tryz.ntmps38
  go_wp2
  go_ret
  exact ⟨by rw [← HE.out]; rfl, rfl⟩
/-- What lines answers. -/
def LinesP (l : List (List UInt8)) (w : World) (e : Ending) (w' : World) : Prop := (∃ b : Bool, e = .returned (.bool b) ∧ (b = true → l.length ≤ 30 ∧ ∀ t ∈ l, t.length ≤ 250)) ∧ Below w.heap.size w w'
set_option maxHeartbeats 1000000 in
theorem lines_any (l : List (List UInt8)) (ao : Option Addr) (cap : Nat) (w : World) (h : StrsC w ao l) (hev : ∀ t ∈ l, t.length ≤ maxLen) (hl : l.length ≤ maxLen) :
    Calls Tryz.prog 17 #[.slice ao l.length cap] w (LinesP l w) := by
  unfold maxLen at hl
  by_cases h40 : l.length ≤ 30
  · have hz : (l.length : Int) ≤ 30 := by omega
    have hc := idx_str l ao cap w h (by omega) 38 (fun t => decide (250 < t.length)) (enters_of Tryz.func38 (by kernel_rfl) rfl) (fun t W ht => long_any t W (hev t ht))
    have hd : Calls Tryz.prog 37 #[.slice ao l.length cap, .func (.func 38) #[] #[]] w fun r w' => ∃ i : Int, r = .returned (.bool (decide (0 ≤ i))) ∧ FoundS (fun t => decide (250 < t.length)) l i ∧ Below w.heap.size w w' := by
      go_enter Tryz.func37, Tryz.ntmps37
      go_wp2_with fail
      refine hc.mono ?_
      rintro e w1 ⟨i, rfl, hfd, hb⟩
      have HFD : Hid (FoundS (fun t => decide (250 < t.length)) l i) := hfd
      clear hfd hc
      go_wp2
      go_ret
      exact ⟨i, rfl, HFD.out, hb⟩
    clear hc h hev
    go_enter Tryz.func17, Tryz.ntmps17
    go_wp2_with fail
    refine hd.mono ?_
    rintro e w1 ⟨i, rfl, hfd, hb⟩
    have HB : Hid ((!decide (0 ≤ i)) = true → l.length ≤ 30 ∧ ∀ t ∈ l, t.length ≤ 250) := fun hi => by
      refine ⟨h40, fun t ht => ?_⟩
      rcases hfd with ⟨h1, h2⟩ | ⟨h1, _⟩
      · have := h2 t ht
        simp at this
        exact this
      · simp at hi; omega
    generalize decide (0 ≤ i) = bb at HB ⊢
    clear hd hfd
    go_wp2
    go_ret
    exact ⟨⟨!bb, rfl, HB.out⟩, hb⟩
  · have hz : ¬ (l.length : Int) ≤ 30 := by omega
    go_enter Tryz.func17, Tryz.ntmps17
    go_wp2
    go_ret
    exact ⟨⟨false, rfl, (fun h => by cases h)⟩, Below.refl _ _⟩
end Go.Proofs.YtdkhohlhdiekmaaGreatDoor
