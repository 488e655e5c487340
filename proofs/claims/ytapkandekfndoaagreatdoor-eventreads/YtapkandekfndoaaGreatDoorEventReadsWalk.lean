/- The walk of tallymanlaw.EventReads: it returns true. -/
import Derived.Test.YtapkandekfndoaaGreatDoorEventReadsPair
namespace Go.Proofs.YtapkandekfndoaaGreatDoor
open Go.RowKit
set_option maxHeartbeats 16000000 in
set_option maxRecDepth 20000 in
theorem reads_walk (x y : Ev) (s : ByteArray) (w : World) (hg : GlobL w) (hx : EvW x) (hy : EvW y) (hs : s.size ≤ maxLen) :
    Calls Tryz.prog 5 #[evV x, evV y, .string s] w fun e w' => e = .returned (.bool true) ∧ Below w.heap.size w w' := by
  have zx := hx.item
  have zy := hy.item
  unfold maxLen at hs zx zy
  by_cases h200 : 200 < s.size
  · obtain ⟨id, item, kind, qty, price, ofI, day⟩ := x
    obtain ⟨id2, item2, kind2, qty2, price2, ofI2, day2⟩ := y
    have hb0 : Below w.heap.size w ((w.alloc (.cells #[.int .i64 id, .string item, .int .i64 kind, .int .i64 qty, .int .i64 price, .int .i64 ofI, .int .i64 day] 52)).alloc (.cells #[.int .i64 id2, .string item2, .int .i64 kind2, .int .i64 qty2, .int .i64 price2, .int .i64 ofI2, .int .i64 day2] 52)) := ((Below.refl _ _).alloc (Nat.le_refl _) _).alloc (by simp) _
    clear hg hx hy
    unfold evV at *
    simp only at *
    go_enter Tryz.func5, Tryz.ntmps5
    go_wp2
    go_ret
    exact ⟨rfl, hb0⟩
  by_cases h60 : 60 < x.item.size
  · obtain ⟨id, item, kind, qty, price, ofI, day⟩ := x
    obtain ⟨id2, item2, kind2, qty2, price2, ofI2, day2⟩ := y
    have hb0 : Below w.heap.size w ((w.alloc (.cells #[.int .i64 id, .string item, .int .i64 kind, .int .i64 qty, .int .i64 price, .int .i64 ofI, .int .i64 day] 52)).alloc (.cells #[.int .i64 id2, .string item2, .int .i64 kind2, .int .i64 qty2, .int .i64 price2, .int .i64 ofI2, .int .i64 day2] 52)) := ((Below.refl _ _).alloc (Nat.le_refl _) _).alloc (by simp) _
    clear hg hx hy
    unfold evV at *
    simp only at *
    go_enter Tryz.func5, Tryz.ntmps5
    go_wp2
    go_ret
    exact ⟨rfl, hb0⟩
  by_cases h61 : 60 < y.item.size
  · obtain ⟨id, item, kind, qty, price, ofI, day⟩ := x
    obtain ⟨id2, item2, kind2, qty2, price2, ofI2, day2⟩ := y
    have hb0 : Below w.heap.size w ((w.alloc (.cells #[.int .i64 id, .string item, .int .i64 kind, .int .i64 qty, .int .i64 price, .int .i64 ofI, .int .i64 day] 52)).alloc (.cells #[.int .i64 id2, .string item2, .int .i64 kind2, .int .i64 qty2, .int .i64 price2, .int .i64 ofI2, .int .i64 day2] 52)) := ((Below.refl _ _).alloc (Nat.le_refl _) _).alloc (by simp) _
    clear hg hx hy
    unfold evV at *
    simp only at *
    go_enter Tryz.func5, Tryz.ntmps5
    go_wp2
    go_ret
    exact ⟨rfl, hb0⟩
  obtain ⟨b1, q1, q2⟩ := right_pair x hx
  obtain ⟨b2, q3, q4⟩ := name_pair x.item (by unfold maxLen; omega)
  obtain ⟨t, k1, v1, p1, p2, p3⟩ := text_pair x hx
  obtain ⟨z, k2, v2, r1, r2, r3⟩ := event_pair s (by omega)
  have HO := hidN (order_pair x y)
  have Q1 := hidN q1
  have Q2 := hidN q2
  have Q3 := hidN q3
  have Q4 := hidN q4
  have P1 := hidN p1
  have P2 := hidN p2
  have P3 := hidN p3
  have R1 := hidN r1
  have R2 := hidN r2
  have R3 := hidN r3
  have HG := hidN hg
  clear q1 q2 q3 q4 p1 p2 p3 r1 r2 r3 hg hx hy hs
  obtain ⟨id, item, kind, qty, price, ofI, day⟩ := x
  obtain ⟨id2, item2, kind2, qty2, price2, ofI2, day2⟩ := y
  obtain ⟨id3, item3, kind3, qty3, price3, ofI3, day3⟩ := z
  unfold evV at *
  simp only at *
  have hself1 : (b1 == b1) = true := by simp
  have hself2 : (b2 == b2) = true := by simp
  have hself3 : (t.toList == t.toList) = true := by simp
  have hself4 : (item3.toList == item3.toList) = true := by simp
  have hU := up_ne
  obtain ⟨V, hV⟩ : ∃ V, V = w.alloc (.cells #[.int .i64 id, .string item, .int .i64 kind, .int .i64 qty, .int .i64 price, .int .i64 ofI, .int .i64 day] 52) := ⟨_, rfl⟩
  obtain ⟨W0, hW⟩ : ∃ W, W = V.alloc (.cells #[.int .i64 id2, .string item2, .int .i64 kind2, .int .i64 qty2, .int .i64 price2, .int .i64 ofI2, .int .i64 day2] 52) := ⟨_, rfl⟩
  have hz : V.heap.size = w.heap.size + 1 := by rw [hV]; simp
  have hE : EvAt V w.heap.size ⟨id, item, kind, qty, price, ofI, day⟩ := by rw [hV]; constructor <;> simp
  have hE0 : EvAt W0 w.heap.size ⟨id, item, kind, qty, price, ofI, day⟩ := by rw [hW]; exact hE.below ((Below.refl _ _).alloc (Nat.le_refl _) _)
  have hF0 : EvAt W0 (w.heap.size + 1) ⟨id2, item2, kind2, qty2, price2, ofI2, day2⟩ := by rw [hW, ← hz]; constructor <;> simp
  have hB0 : Below w.heap.size w W0 := by rw [hW, hV]; exact ((Below.refl _ _).alloc (Nat.le_refl _) _).alloc (by simp) _
  clear hE hz
  go_enter Tryz.func5, Tryz.ntmps5
  rw [hV] at hW
  clear hV
  go_wp2_with fail
  rw [← hW]
  clear hW
  rcases HO.out with ⟨ha, hc⟩ | ⟨ha, ha2, hc⟩ | ⟨ha, ha2, hc⟩
  · have HA := hidN ha
    have HC := hidN hc
    clear HO ha hc
    refine (HA.out _).mono ?_
    rintro e W2 ⟨rfl, hb2⟩
    have hB2 := hB0.trans (hb2.mono hB0.size)
    have hE2 := hE0.below hb2
    have hF2 := hF0.below hb2
    clear hb2 hB0 hE0 hF0 HA
    go_wp2_with fail
    refine wp_region_mix [(true, 0), (true, 2), (false, 1), (false, 3), (true, 4), (true, 5), (true, 6), (true, 7), (true, 9), (true, 10), (false, 8), (false, 11), (true, 12), (true, 13), (true, 14), (true, 15), (true, 16), (true, 20), (false, 17), (false, 18), (false, 19), (true, 21), (true, 22)] (by kernel_rfl) (by kernel_rfl) ?_
    obtain ⟨W3, hW3⟩ : ∃ W, W = W2.drew := ⟨_, rfl⟩
    rw [← hW3]
    have hb3 : Below W2.heap.size W2 W3 := by rw [hW3]; exact below_drew _
    have hB3 := hB2.trans (hb3.mono hB2.size)
    have hE3 := hE2.below hb3
    have hF3 := hF2.below hb3
    clear hW3 hb3 hB2 hE2 hF2
    have e0 := fun n : Up W3 => (hE3.up n).c0
    have e1 := fun n : Up W3 => (hE3.up n).c1
    have e2 := fun n : Up W3 => (hE3.up n).c2
    have e3 := fun n : Up W3 => (hE3.up n).c3
    have e4 := fun n : Up W3 => (hE3.up n).c4
    have e5 := fun n : Up W3 => (hE3.up n).c5
    have e6 := fun n : Up W3 => (hE3.up n).c6
    simp only at e0 e1 e2 e3 e4 e5 e6
    repeat (refine mix_q rfl ?_; go_big_quiet_step (fail); refine wpQuiet_nil ?_)
    clear e0 e1 e2 e3 e4 e5 e6
    refine mix_n rfl ?_
    go_wp2_with fail
    refine (Q1.out _).mono ?_
    rintro e W4 ⟨rfl, hb4⟩
    go_wp2_with fail
    refine ⟨rfl, hb4, ?_⟩
    have hB4 := hB3.trans (hb4.mono hB3.size)
    have hE4 := hE3.below hb4
    have hF4 := hF3.below hb4
    clear hb4 hB3 hE3 hF3 Q1
    refine mix_n rfl ?_
    go_wp2_with fail
    refine (Q2.out _).mono ?_
    rintro e W5 ⟨rfl, hb5⟩
    go_wp2_with fail
    refine ⟨rfl, hb5, ?_⟩
    have hB5 := hB4.trans (hb5.mono hB4.size)
    have hE5 := hE4.below hb5
    have hF5 := hF4.below hb5
    clear hb5 hB4 hE4 hF4 Q2
    have e0 := fun n : Up W5 => (hE5.up n).c0
    have e1 := fun n : Up W5 => (hE5.up n).c1
    have e2 := fun n : Up W5 => (hE5.up n).c2
    have e3 := fun n : Up W5 => (hE5.up n).c3
    have e4 := fun n : Up W5 => (hE5.up n).c4
    have e5 := fun n : Up W5 => (hE5.up n).c5
    have e6 := fun n : Up W5 => (hE5.up n).c6
    simp only at e0 e1 e2 e3 e4 e5 e6
    repeat (refine mix_q rfl ?_; go_big_quiet_step (fail); refine wpQuiet_nil ?_)
    clear e0 e1 e2 e3 e4 e5 e6
    refine mix_n rfl ?_
    go_wp2_with fail
    refine (Q3.out _).mono ?_
    rintro e W6 ⟨rfl, hb6⟩
    go_wp2_with fail
    refine ⟨rfl, hb6, ?_⟩
    have hB6 := hB5.trans (hb6.mono hB5.size)
    have hE6 := hE5.below hb6
    have hF6 := hF5.below hb6
    clear hb6 hB5 hE5 hF5 Q3
    refine mix_n rfl ?_
    go_wp2_with fail
    refine (Q4.out _).mono ?_
    rintro e W7 ⟨rfl, hb7⟩
    go_wp2_with fail
    refine ⟨rfl, hb7, ?_⟩
    have hB7 := hB6.trans (hb7.mono hB6.size)
    have hE7 := hE6.below hb7
    have hF7 := hF6.below hb7
    clear hb7 hB6 hE6 hF6 Q4
    have e0 := fun n : Up W7 => (hE7.up n).c0
    have e1 := fun n : Up W7 => (hE7.up n).c1
    have e2 := fun n : Up W7 => (hE7.up n).c2
    have e3 := fun n : Up W7 => (hE7.up n).c3
    have e4 := fun n : Up W7 => (hE7.up n).c4
    have e5 := fun n : Up W7 => (hE7.up n).c5
    have e6 := fun n : Up W7 => (hE7.up n).c6
    simp only at e0 e1 e2 e3 e4 e5 e6
    have f0 := fun n : Up W7 => (hF7.up n).c0
    have f1 := fun n : Up W7 => (hF7.up n).c1
    have f2 := fun n : Up W7 => (hF7.up n).c2
    have f3 := fun n : Up W7 => (hF7.up n).c3
    have f4 := fun n : Up W7 => (hF7.up n).c4
    have f5 := fun n : Up W7 => (hF7.up n).c5
    have f6 := fun n : Up W7 => (hF7.up n).c6
    simp only at f0 f1 f2 f3 f4 f5 f6
    repeat (refine mix_q rfl ?_; go_big_quiet_step (fail); refine wpQuiet_nil ?_)
    clear e0 e1 e2 e3 e4 e5 e6
    clear f0 f1 f2 f3 f4 f5 f6
    refine mix_n rfl ?_
    go_wp2_with fail
    refine (HC.out _).mono ?_
    rintro e W8 ⟨rfl, hb8⟩
    go_wp2_with fail
    refine ⟨rfl, hb8, ?_⟩
    have hB8 := hB7.trans (hb8.mono hB7.size)
    have hE8 := hE7.below hb8
    have hF8 := hF7.below hb8
    clear hb8 hB7 hE7 hF7 HC
    refine mix_n rfl ?_
    go_wp2_with fail
    refine ⟨rfl, Below.refl _ _, ?_⟩
    refine mix_n rfl ?_
    go_wp2_with fail
    refine ⟨rfl, Below.refl _ _, ?_⟩
    repeat (refine mix_q rfl ?_; go_big_quiet_step (fail); refine wpQuiet_nil ?_)
    refine mix_nil ?_
    have hE8' := hE8
    obtain ⟨e0, e1, e2, e3, e4, e5, e6⟩ := hE8
    simp only at e0 e1 e2 e3 e4 e5 e6
    go_wp2_with fail
    refine (P1.out _ (HG.out.below hB8)).mono ?_
    rintro e W9 ⟨rfl, hb9⟩
    have hB9 := hB8.trans (hb9.mono hB8.size)
    have hE9 := hE8'.below hb9
    clear hb9 hB8 hE8' hF8 P1 e0 e1 e2 e3 e4 e5 e6
    have hE9' := hE9
    obtain ⟨e0, e1, e2, e3, e4, e5, e6⟩ := hE9
    simp only at e0 e1 e2 e3 e4 e5 e6
    go_wp2_with fail
    refine (P2.out _ (HG.out.below hB9)).mono ?_
    rintro e W10 ⟨rfl, hb10⟩
    have hB10 := hB9.trans (hb10.mono hB9.size)
    clear hb10 hB9 hE9' P2 e0 e1 e2 e3 e4 e5 e6
    go_wp2_with fail
    refine (P3.out _ (HG.out.below hB10)).mono ?_
    rintro e W11 ⟨rfl, hb11⟩
    have hB11 := hB10.trans (hb11.mono hB10.size)
    clear hb11 hB10 P3
    go_wp2_with fail
    refine (R1.out _ (HG.out.below hB11)).mono ?_
    rintro e W12 ⟨rfl, hb12⟩
    have hB12 := hB11.trans (hb12.mono hB11.size)
    clear hb12 hB11 R1
    obtain ⟨W13, hW13⟩ : ∃ W, W = W12.alloc (.cells #[.int .i64 id3, .string item3, .int .i64 kind3, .int .i64 qty3, .int .i64 price3, .int .i64 ofI3, .int .i64 day3] 52) := ⟨_, rfl⟩
    have hB13 : Below w.heap.size w W13 := by rw [hW13]; exact hB12.alloc hB12.size _
    have hY13 : EvAt W13 W12.heap.size ⟨id3, item3, kind3, qty3, price3, ofI3, day3⟩ := by rw [hW13]; constructor <;> simp
    go_wp2_with fail
    rw [← hW13]
    clear hW13 hB12
    refine (R2.out _ (HG.out.below hB13)).mono ?_
    rintro e W14 ⟨rfl, hb14⟩
    have hB14 := hB13.trans (hb14.mono hB13.size)
    have hY14 := hY13.below hb14
    clear hb14 hB13 hY13 R2
    obtain ⟨W15, hW15⟩ : ∃ W, W = W14.alloc (.cells #[.int .i64 id3, .string item3, .int .i64 kind3, .int .i64 qty3, .int .i64 price3, .int .i64 ofI3, .int .i64 day3] 52) := ⟨_, rfl⟩
    have hb15 : Below W14.heap.size W14 W15 := by rw [hW15]; exact (Below.refl _ _).alloc (Nat.le_refl _) _
    have hB15 := hB14.trans (hb15.mono hB14.size)
    have hY15 := hY14.below hb15
    have hZ15 : EvAt W15 W14.heap.size ⟨id3, item3, kind3, qty3, price3, ofI3, day3⟩ := by rw [hW15]; constructor <;> simp
    go_wp2_with fail
    rw [← hW15]
    clear hW15 hB14 hb15 hY14
    refine (R3.out _ (HG.out.below hB15)).mono ?_
    rintro e W16 ⟨rfl, hb16⟩
    have hB16 := hB15.trans (hb16.mono hB15.size)
    have hY16 := hY15.below hb16
    have hZ16 := hZ15.below hb16
    clear hb16 hB15 hY15 hZ15 R3
    obtain ⟨e0, e1, e2, e3, e4, e5, e6⟩ := hY16
    simp only at e0 e1 e2 e3 e4 e5 e6
    obtain ⟨f0, f1, f2, f3, f4, f5, f6⟩ := hZ16
    simp only at f0 f1 f2 f3 f4 f5 f6
    go_wp2
    go_ret
    exact ⟨rfl, hB16⟩
  · have HA := hidN ha
    have HA2 := hidN ha2
    have HC := hidN hc
    clear HO ha hc ha2
    refine (HA.out _).mono ?_
    rintro e W1 ⟨rfl, hb1⟩
    have hB1 := hB0.trans (hb1.mono hB0.size)
    have hE1 := hE0.below hb1
    have hF1 := hF0.below hb1
    clear hb1 hB0 hE0 hF0 HA
    have hE1' := hE1
    have hF1' := hF1
    obtain ⟨e0, e1, e2, e3, e4, e5, e6⟩ := hE1
    simp only at e0 e1 e2 e3 e4 e5 e6
    obtain ⟨f0, f1, f2, f3, f4, f5, f6⟩ := hF1
    simp only at f0 f1 f2 f3 f4 f5 f6
    go_wp2_with fail
    refine (HA2.out _).mono ?_
    rintro e W2 ⟨rfl, hb2⟩
    have hB2 := hB1.trans (hb2.mono hB1.size)
    have hE2 := hE1'.below hb2
    have hF2 := hF1'.below hb2
    clear hb2 hB1 hE1' hF1' HA2 e0 e1 e2 e3 e4 e5 e6 f0 f1 f2 f3 f4 f5 f6
    go_wp2_with fail
    refine wp_region_mix [(true, 0), (true, 2), (false, 1), (false, 3), (true, 4), (true, 5), (true, 6), (true, 7), (true, 9), (true, 10), (false, 8), (false, 11), (true, 12), (true, 13), (true, 14), (true, 15), (true, 16), (true, 20), (false, 17), (false, 18), (false, 19), (true, 21), (true, 22)] (by kernel_rfl) (by kernel_rfl) ?_
    obtain ⟨W3, hW3⟩ : ∃ W, W = W2.drew := ⟨_, rfl⟩
    rw [← hW3]
    have hb3 : Below W2.heap.size W2 W3 := by rw [hW3]; exact below_drew _
    have hB3 := hB2.trans (hb3.mono hB2.size)
    have hE3 := hE2.below hb3
    have hF3 := hF2.below hb3
    clear hW3 hb3 hB2 hE2 hF2
    have e0 := fun n : Up W3 => (hE3.up n).c0
    have e1 := fun n : Up W3 => (hE3.up n).c1
    have e2 := fun n : Up W3 => (hE3.up n).c2
    have e3 := fun n : Up W3 => (hE3.up n).c3
    have e4 := fun n : Up W3 => (hE3.up n).c4
    have e5 := fun n : Up W3 => (hE3.up n).c5
    have e6 := fun n : Up W3 => (hE3.up n).c6
    simp only at e0 e1 e2 e3 e4 e5 e6
    repeat (refine mix_q rfl ?_; go_big_quiet_step (fail); refine wpQuiet_nil ?_)
    clear e0 e1 e2 e3 e4 e5 e6
    refine mix_n rfl ?_
    go_wp2_with fail
    refine (Q1.out _).mono ?_
    rintro e W4 ⟨rfl, hb4⟩
    go_wp2_with fail
    refine ⟨rfl, hb4, ?_⟩
    have hB4 := hB3.trans (hb4.mono hB3.size)
    have hE4 := hE3.below hb4
    have hF4 := hF3.below hb4
    clear hb4 hB3 hE3 hF3 Q1
    refine mix_n rfl ?_
    go_wp2_with fail
    refine (Q2.out _).mono ?_
    rintro e W5 ⟨rfl, hb5⟩
    go_wp2_with fail
    refine ⟨rfl, hb5, ?_⟩
    have hB5 := hB4.trans (hb5.mono hB4.size)
    have hE5 := hE4.below hb5
    have hF5 := hF4.below hb5
    clear hb5 hB4 hE4 hF4 Q2
    have e0 := fun n : Up W5 => (hE5.up n).c0
    have e1 := fun n : Up W5 => (hE5.up n).c1
    have e2 := fun n : Up W5 => (hE5.up n).c2
    have e3 := fun n : Up W5 => (hE5.up n).c3
    have e4 := fun n : Up W5 => (hE5.up n).c4
    have e5 := fun n : Up W5 => (hE5.up n).c5
    have e6 := fun n : Up W5 => (hE5.up n).c6
    simp only at e0 e1 e2 e3 e4 e5 e6
    repeat (refine mix_q rfl ?_; go_big_quiet_step (fail); refine wpQuiet_nil ?_)
    clear e0 e1 e2 e3 e4 e5 e6
    refine mix_n rfl ?_
    go_wp2_with fail
    refine (Q3.out _).mono ?_
    rintro e W6 ⟨rfl, hb6⟩
    go_wp2_with fail
    refine ⟨rfl, hb6, ?_⟩
    have hB6 := hB5.trans (hb6.mono hB5.size)
    have hE6 := hE5.below hb6
    have hF6 := hF5.below hb6
    clear hb6 hB5 hE5 hF5 Q3
    refine mix_n rfl ?_
    go_wp2_with fail
    refine (Q4.out _).mono ?_
    rintro e W7 ⟨rfl, hb7⟩
    go_wp2_with fail
    refine ⟨rfl, hb7, ?_⟩
    have hB7 := hB6.trans (hb7.mono hB6.size)
    have hE7 := hE6.below hb7
    have hF7 := hF6.below hb7
    clear hb7 hB6 hE6 hF6 Q4
    have e0 := fun n : Up W7 => (hE7.up n).c0
    have e1 := fun n : Up W7 => (hE7.up n).c1
    have e2 := fun n : Up W7 => (hE7.up n).c2
    have e3 := fun n : Up W7 => (hE7.up n).c3
    have e4 := fun n : Up W7 => (hE7.up n).c4
    have e5 := fun n : Up W7 => (hE7.up n).c5
    have e6 := fun n : Up W7 => (hE7.up n).c6
    simp only at e0 e1 e2 e3 e4 e5 e6
    have f0 := fun n : Up W7 => (hF7.up n).c0
    have f1 := fun n : Up W7 => (hF7.up n).c1
    have f2 := fun n : Up W7 => (hF7.up n).c2
    have f3 := fun n : Up W7 => (hF7.up n).c3
    have f4 := fun n : Up W7 => (hF7.up n).c4
    have f5 := fun n : Up W7 => (hF7.up n).c5
    have f6 := fun n : Up W7 => (hF7.up n).c6
    simp only at f0 f1 f2 f3 f4 f5 f6
    repeat (refine mix_q rfl ?_; go_big_quiet_step (fail); refine wpQuiet_nil ?_)
    clear e0 e1 e2 e3 e4 e5 e6
    clear f0 f1 f2 f3 f4 f5 f6
    refine mix_n rfl ?_
    go_wp2_with fail
    refine (HC.out _).mono ?_
    rintro e W8 ⟨rfl, hb8⟩
    go_wp2_with fail
    refine ⟨rfl, hb8, ?_⟩
    have hB8 := hB7.trans (hb8.mono hB7.size)
    have hE8 := hE7.below hb8
    have hF8 := hF7.below hb8
    clear hb8 hB7 hE7 hF7 HC
    refine mix_n rfl ?_
    go_wp2_with fail
    refine ⟨rfl, Below.refl _ _, ?_⟩
    refine mix_n rfl ?_
    go_wp2_with fail
    refine ⟨rfl, Below.refl _ _, ?_⟩
    repeat (refine mix_q rfl ?_; go_big_quiet_step (fail); refine wpQuiet_nil ?_)
    refine mix_nil ?_
    have hE8' := hE8
    obtain ⟨e0, e1, e2, e3, e4, e5, e6⟩ := hE8
    simp only at e0 e1 e2 e3 e4 e5 e6
    go_wp2_with fail
    refine (P1.out _ (HG.out.below hB8)).mono ?_
    rintro e W9 ⟨rfl, hb9⟩
    have hB9 := hB8.trans (hb9.mono hB8.size)
    have hE9 := hE8'.below hb9
    clear hb9 hB8 hE8' hF8 P1 e0 e1 e2 e3 e4 e5 e6
    have hE9' := hE9
    obtain ⟨e0, e1, e2, e3, e4, e5, e6⟩ := hE9
    simp only at e0 e1 e2 e3 e4 e5 e6
    go_wp2_with fail
    refine (P2.out _ (HG.out.below hB9)).mono ?_
    rintro e W10 ⟨rfl, hb10⟩
    have hB10 := hB9.trans (hb10.mono hB9.size)
    clear hb10 hB9 hE9' P2 e0 e1 e2 e3 e4 e5 e6
    go_wp2_with fail
    refine (P3.out _ (HG.out.below hB10)).mono ?_
    rintro e W11 ⟨rfl, hb11⟩
    have hB11 := hB10.trans (hb11.mono hB10.size)
    clear hb11 hB10 P3
    go_wp2_with fail
    refine (R1.out _ (HG.out.below hB11)).mono ?_
    rintro e W12 ⟨rfl, hb12⟩
    have hB12 := hB11.trans (hb12.mono hB11.size)
    clear hb12 hB11 R1
    obtain ⟨W13, hW13⟩ : ∃ W, W = W12.alloc (.cells #[.int .i64 id3, .string item3, .int .i64 kind3, .int .i64 qty3, .int .i64 price3, .int .i64 ofI3, .int .i64 day3] 52) := ⟨_, rfl⟩
    have hB13 : Below w.heap.size w W13 := by rw [hW13]; exact hB12.alloc hB12.size _
    have hY13 : EvAt W13 W12.heap.size ⟨id3, item3, kind3, qty3, price3, ofI3, day3⟩ := by rw [hW13]; constructor <;> simp
    go_wp2_with fail
    rw [← hW13]
    clear hW13 hB12
    refine (R2.out _ (HG.out.below hB13)).mono ?_
    rintro e W14 ⟨rfl, hb14⟩
    have hB14 := hB13.trans (hb14.mono hB13.size)
    have hY14 := hY13.below hb14
    clear hb14 hB13 hY13 R2
    obtain ⟨W15, hW15⟩ : ∃ W, W = W14.alloc (.cells #[.int .i64 id3, .string item3, .int .i64 kind3, .int .i64 qty3, .int .i64 price3, .int .i64 ofI3, .int .i64 day3] 52) := ⟨_, rfl⟩
    have hb15 : Below W14.heap.size W14 W15 := by rw [hW15]; exact (Below.refl _ _).alloc (Nat.le_refl _) _
    have hB15 := hB14.trans (hb15.mono hB14.size)
    have hY15 := hY14.below hb15
    have hZ15 : EvAt W15 W14.heap.size ⟨id3, item3, kind3, qty3, price3, ofI3, day3⟩ := by rw [hW15]; constructor <;> simp
    go_wp2_with fail
    rw [← hW15]
    clear hW15 hB14 hb15 hY14
    refine (R3.out _ (HG.out.below hB15)).mono ?_
    rintro e W16 ⟨rfl, hb16⟩
    have hB16 := hB15.trans (hb16.mono hB15.size)
    have hY16 := hY15.below hb16
    have hZ16 := hZ15.below hb16
    clear hb16 hB15 hY15 hZ15 R3
    obtain ⟨e0, e1, e2, e3, e4, e5, e6⟩ := hY16
    simp only at e0 e1 e2 e3 e4 e5 e6
    obtain ⟨f0, f1, f2, f3, f4, f5, f6⟩ := hZ16
    simp only at f0 f1 f2 f3 f4 f5 f6
    go_wp2
    go_ret
    exact ⟨rfl, hB16⟩
  · have HA := hidN ha
    have HA2 := hidN ha2
    have HC := hidN hc
    clear HO ha hc ha2
    refine (HA.out _).mono ?_
    rintro e W1 ⟨rfl, hb1⟩
    have hB1 := hB0.trans (hb1.mono hB0.size)
    have hE1 := hE0.below hb1
    have hF1 := hF0.below hb1
    clear hb1 hB0 hE0 hF0 HA
    have hE1' := hE1
    have hF1' := hF1
    obtain ⟨e0, e1, e2, e3, e4, e5, e6⟩ := hE1
    simp only at e0 e1 e2 e3 e4 e5 e6
    obtain ⟨f0, f1, f2, f3, f4, f5, f6⟩ := hF1
    simp only at f0 f1 f2 f3 f4 f5 f6
    go_wp2_with fail
    refine (HA2.out _).mono ?_
    rintro e W2 ⟨rfl, hb2⟩
    have hB2 := hB1.trans (hb2.mono hB1.size)
    have hE2 := hE1'.below hb2
    have hF2 := hF1'.below hb2
    clear hb2 hB1 hE1' hF1' HA2 e0 e1 e2 e3 e4 e5 e6 f0 f1 f2 f3 f4 f5 f6
    go_wp2_with fail
    refine wp_region_mix [(true, 0), (true, 2), (false, 1), (false, 3), (true, 4), (true, 5), (true, 6), (true, 7), (true, 9), (true, 10), (false, 8), (false, 11), (true, 12), (true, 13), (true, 14), (true, 15), (true, 16), (true, 20), (false, 17), (false, 18), (false, 19), (true, 21), (true, 22)] (by kernel_rfl) (by kernel_rfl) ?_
    obtain ⟨W3, hW3⟩ : ∃ W, W = W2.drew := ⟨_, rfl⟩
    rw [← hW3]
    have hb3 : Below W2.heap.size W2 W3 := by rw [hW3]; exact below_drew _
    have hB3 := hB2.trans (hb3.mono hB2.size)
    have hE3 := hE2.below hb3
    have hF3 := hF2.below hb3
    clear hW3 hb3 hB2 hE2 hF2
    have e0 := fun n : Up W3 => (hE3.up n).c0
    have e1 := fun n : Up W3 => (hE3.up n).c1
    have e2 := fun n : Up W3 => (hE3.up n).c2
    have e3 := fun n : Up W3 => (hE3.up n).c3
    have e4 := fun n : Up W3 => (hE3.up n).c4
    have e5 := fun n : Up W3 => (hE3.up n).c5
    have e6 := fun n : Up W3 => (hE3.up n).c6
    simp only at e0 e1 e2 e3 e4 e5 e6
    repeat (refine mix_q rfl ?_; go_big_quiet_step (fail); refine wpQuiet_nil ?_)
    clear e0 e1 e2 e3 e4 e5 e6
    refine mix_n rfl ?_
    go_wp2_with fail
    refine (Q1.out _).mono ?_
    rintro e W4 ⟨rfl, hb4⟩
    go_wp2_with fail
    refine ⟨rfl, hb4, ?_⟩
    have hB4 := hB3.trans (hb4.mono hB3.size)
    have hE4 := hE3.below hb4
    have hF4 := hF3.below hb4
    clear hb4 hB3 hE3 hF3 Q1
    refine mix_n rfl ?_
    go_wp2_with fail
    refine (Q2.out _).mono ?_
    rintro e W5 ⟨rfl, hb5⟩
    go_wp2_with fail
    refine ⟨rfl, hb5, ?_⟩
    have hB5 := hB4.trans (hb5.mono hB4.size)
    have hE5 := hE4.below hb5
    have hF5 := hF4.below hb5
    clear hb5 hB4 hE4 hF4 Q2
    have e0 := fun n : Up W5 => (hE5.up n).c0
    have e1 := fun n : Up W5 => (hE5.up n).c1
    have e2 := fun n : Up W5 => (hE5.up n).c2
    have e3 := fun n : Up W5 => (hE5.up n).c3
    have e4 := fun n : Up W5 => (hE5.up n).c4
    have e5 := fun n : Up W5 => (hE5.up n).c5
    have e6 := fun n : Up W5 => (hE5.up n).c6
    simp only at e0 e1 e2 e3 e4 e5 e6
    repeat (refine mix_q rfl ?_; go_big_quiet_step (fail); refine wpQuiet_nil ?_)
    clear e0 e1 e2 e3 e4 e5 e6
    refine mix_n rfl ?_
    go_wp2_with fail
    refine (Q3.out _).mono ?_
    rintro e W6 ⟨rfl, hb6⟩
    go_wp2_with fail
    refine ⟨rfl, hb6, ?_⟩
    have hB6 := hB5.trans (hb6.mono hB5.size)
    have hE6 := hE5.below hb6
    have hF6 := hF5.below hb6
    clear hb6 hB5 hE5 hF5 Q3
    refine mix_n rfl ?_
    go_wp2_with fail
    refine (Q4.out _).mono ?_
    rintro e W7 ⟨rfl, hb7⟩
    go_wp2_with fail
    refine ⟨rfl, hb7, ?_⟩
    have hB7 := hB6.trans (hb7.mono hB6.size)
    have hE7 := hE6.below hb7
    have hF7 := hF6.below hb7
    clear hb7 hB6 hE6 hF6 Q4
    have e0 := fun n : Up W7 => (hE7.up n).c0
    have e1 := fun n : Up W7 => (hE7.up n).c1
    have e2 := fun n : Up W7 => (hE7.up n).c2
    have e3 := fun n : Up W7 => (hE7.up n).c3
    have e4 := fun n : Up W7 => (hE7.up n).c4
    have e5 := fun n : Up W7 => (hE7.up n).c5
    have e6 := fun n : Up W7 => (hE7.up n).c6
    simp only at e0 e1 e2 e3 e4 e5 e6
    have f0 := fun n : Up W7 => (hF7.up n).c0
    have f1 := fun n : Up W7 => (hF7.up n).c1
    have f2 := fun n : Up W7 => (hF7.up n).c2
    have f3 := fun n : Up W7 => (hF7.up n).c3
    have f4 := fun n : Up W7 => (hF7.up n).c4
    have f5 := fun n : Up W7 => (hF7.up n).c5
    have f6 := fun n : Up W7 => (hF7.up n).c6
    simp only at f0 f1 f2 f3 f4 f5 f6
    repeat (refine mix_q rfl ?_; go_big_quiet_step (fail); refine wpQuiet_nil ?_)
    clear e0 e1 e2 e3 e4 e5 e6
    clear f0 f1 f2 f3 f4 f5 f6
    refine mix_n rfl ?_
    go_wp2_with fail
    refine (HC.out _).mono ?_
    rintro e W8 ⟨rfl, hb8⟩
    go_wp2_with fail
    refine ⟨rfl, hb8, ?_⟩
    have hB8 := hB7.trans (hb8.mono hB7.size)
    have hE8 := hE7.below hb8
    have hF8 := hF7.below hb8
    clear hb8 hB7 hE7 hF7 HC
    refine mix_n rfl ?_
    go_wp2_with fail
    refine ⟨rfl, Below.refl _ _, ?_⟩
    refine mix_n rfl ?_
    go_wp2_with fail
    refine ⟨rfl, Below.refl _ _, ?_⟩
    repeat (refine mix_q rfl ?_; go_big_quiet_step (fail); refine wpQuiet_nil ?_)
    refine mix_nil ?_
    have hE8' := hE8
    obtain ⟨e0, e1, e2, e3, e4, e5, e6⟩ := hE8
    simp only at e0 e1 e2 e3 e4 e5 e6
    go_wp2_with fail
    refine (P1.out _ (HG.out.below hB8)).mono ?_
    rintro e W9 ⟨rfl, hb9⟩
    have hB9 := hB8.trans (hb9.mono hB8.size)
    have hE9 := hE8'.below hb9
    clear hb9 hB8 hE8' hF8 P1 e0 e1 e2 e3 e4 e5 e6
    have hE9' := hE9
    obtain ⟨e0, e1, e2, e3, e4, e5, e6⟩ := hE9
    simp only at e0 e1 e2 e3 e4 e5 e6
    go_wp2_with fail
    refine (P2.out _ (HG.out.below hB9)).mono ?_
    rintro e W10 ⟨rfl, hb10⟩
    have hB10 := hB9.trans (hb10.mono hB9.size)
    clear hb10 hB9 hE9' P2 e0 e1 e2 e3 e4 e5 e6
    go_wp2_with fail
    refine (P3.out _ (HG.out.below hB10)).mono ?_
    rintro e W11 ⟨rfl, hb11⟩
    have hB11 := hB10.trans (hb11.mono hB10.size)
    clear hb11 hB10 P3
    go_wp2_with fail
    refine (R1.out _ (HG.out.below hB11)).mono ?_
    rintro e W12 ⟨rfl, hb12⟩
    have hB12 := hB11.trans (hb12.mono hB11.size)
    clear hb12 hB11 R1
    obtain ⟨W13, hW13⟩ : ∃ W, W = W12.alloc (.cells #[.int .i64 id3, .string item3, .int .i64 kind3, .int .i64 qty3, .int .i64 price3, .int .i64 ofI3, .int .i64 day3] 52) := ⟨_, rfl⟩
    have hB13 : Below w.heap.size w W13 := by rw [hW13]; exact hB12.alloc hB12.size _
    have hY13 : EvAt W13 W12.heap.size ⟨id3, item3, kind3, qty3, price3, ofI3, day3⟩ := by rw [hW13]; constructor <;> simp
    go_wp2_with fail
    rw [← hW13]
    clear hW13 hB12
    refine (R2.out _ (HG.out.below hB13)).mono ?_
    rintro e W14 ⟨rfl, hb14⟩
    have hB14 := hB13.trans (hb14.mono hB13.size)
    have hY14 := hY13.below hb14
    clear hb14 hB13 hY13 R2
    obtain ⟨W15, hW15⟩ : ∃ W, W = W14.alloc (.cells #[.int .i64 id3, .string item3, .int .i64 kind3, .int .i64 qty3, .int .i64 price3, .int .i64 ofI3, .int .i64 day3] 52) := ⟨_, rfl⟩
    have hb15 : Below W14.heap.size W14 W15 := by rw [hW15]; exact (Below.refl _ _).alloc (Nat.le_refl _) _
    have hB15 := hB14.trans (hb15.mono hB14.size)
    have hY15 := hY14.below hb15
    have hZ15 : EvAt W15 W14.heap.size ⟨id3, item3, kind3, qty3, price3, ofI3, day3⟩ := by rw [hW15]; constructor <;> simp
    go_wp2_with fail
    rw [← hW15]
    clear hW15 hB14 hb15 hY14
    refine (R3.out _ (HG.out.below hB15)).mono ?_
    rintro e W16 ⟨rfl, hb16⟩
    have hB16 := hB15.trans (hb16.mono hB15.size)
    have hY16 := hY15.below hb16
    have hZ16 := hZ15.below hb16
    clear hb16 hB15 hY15 hZ15 R3
    obtain ⟨e0, e1, e2, e3, e4, e5, e6⟩ := hY16
    simp only at e0 e1 e2 e3 e4 e5 e6
    obtain ⟨f0, f1, f2, f3, f4, f5, f6⟩ := hZ16
    simp only at f0 f1 f2 f3 f4 f5 f6
    go_wp2
    go_ret
    exact ⟨rfl, hB16⟩
end Go.Proofs.YtapkandekfndoaaGreatDoor
