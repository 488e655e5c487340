/- The walk of tallymankeep.EventBack: it returns true. -/
import Derived.Test.YtapkandekfndoaaDoorEventFact
namespace Go.Proofs.YtapkandekfndoaaDoor
open Go.RowKit
theorem ET_short {e : Ev} (h : Rt e) : (eb (ET e)).size ≤ 1000 := by
  have e1 : (eb (ET e)).size = (ET e).length := by rw [← dba_len]; rfl
  have a := nums_size h.2.2
  have b := word_size e.kind
  have c := name_size h.1
  have e2 : (eb (nums e.kind e.qty e.price e.ofI)).size = (nums e.kind e.qty e.price e.ofI).length := by rw [← dba_len]; rfl
  have e3 : (eb (wordOf e.kind)).size = (wordOf e.kind).length := by rw [← dba_len]; rfl
  have e4 : (bts (DT e.day)).length = 10 := rfl
  rw [e1]
  unfold ET
  simp only [List.length_append, List.length_cons, dba_len]
  omega
theorem reads_w {s : ByteArray} {e : Ev} (hs : s.size ≤ 1000) (h : Reads s.data.toList e) : EvW e := by
  have hr : bread (parts s) = e := by rw [bread_ps]; exact reads_pread h
  rw [← hr]; exact bread_w s hs
set_option maxHeartbeats 8000000 in
/-- Behind the first half: what an event is written as is read as that event. -/
theorem back_walk (e : Ev) (s : ByteArray) (w : World) (hg : GlobE w) (hw : EvW e) (hs : s.size ≤ maxLen) :
    Calls Tryd.prog 5 #[evV e, .string s] w fun x w' => x = .returned (.bool true) ∧ Below w.heap.size w w' := by
  have hz := hw.item
  unfold maxLen at hs hz
  by_cases h200 : 200 < s.size
  · have hb0 : Below w.heap.size w (w.alloc (.cells #[.int .i64 e.id, .string e.item, .int .i64 e.kind, .int .i64 e.qty, .int .i64 e.price, .int .i64 e.ofI, .int .i64 e.day] 37)) := (Below.refl _ _).alloc (Nat.le_refl _) _
    obtain ⟨id, item, kind, qty, price, ofI, day⟩ := e
    unfold evV at *
    simp only at *
    go_enter Tryd.func5, Tryd.ntmps5
    go_wp2
    go_ret
    exact ⟨rfl, hb0⟩
  by_cases h60 : 60 < e.item.size
  · have hb0 : Below w.heap.size w (w.alloc (.cells #[.int .i64 e.id, .string e.item, .int .i64 e.kind, .int .i64 e.qty, .int .i64 e.price, .int .i64 e.ofI, .int .i64 e.day] 37)) := (Below.refl _ _).alloc (Nat.le_refl _) _
    obtain ⟨id, item, kind, qty, price, ofI, day⟩ := e
    unfold evV at *
    simp only at *
    go_enter Tryd.func5, Tryd.ntmps5
    go_wp2
    go_ret
    exact ⟨rfl, hb0⟩
  have hs1 : s.size ≤ 1000 := by omega
  have HH := hidN (fun v hv => happened_any v hv)
  -- the first text: an event's, or none's
  have HP : Hid ((∃ y : Ev, y.id = 0 ∧ (∀ v, GlobE v → Calls Tryd.prog 16 #[.string s] v fun x w' => x = .returned (.tuple #[evV y, .nilIface]) ∧ Below v.heap.size v w') ∧ (∀ v, GlobE v → Calls Tryd.prog 17 #[evV y] v fun x w' => x = .returned (.tuple #[.string s, .nilIface]) ∧ Below v.heap.size v w')) ∨
      (∀ v, GlobE v → Calls Tryd.prog 16 #[.string s] v fun x w' => x = .returned (.tuple #[evV ev0, .iface 46 (.int .i64 3)]) ∧ Below v.heap.size v w')) := by
    show _ ∨ _
    rcases reads_or s.data.toList with ⟨y, hy⟩ | hy
    · left
      have ht : eb (ET y) = s := by rw [hy.2.2, eb_data]
      refine ⟨y, hy.2.1, fun v hv => eparse_ok s y v hv hs1 hy, fun v hv => ?_⟩
      have := eprint_ok y v hv (reads_w hs1 hy) hy.1
      rw [ht] at this; exact this
    · right
      exact fun v hv => eparse_bad s v hv hs1 hy
  have HQ : Hid ((∃ t : ByteArray, (∀ v, GlobE v → Calls Tryd.prog 17 #[evV e] v fun x w' => x = .returned (.tuple #[.string t, .nilIface]) ∧ Below v.heap.size v w') ∧ (∀ v, GlobE v → Calls Tryd.prog 16 #[.string t] v fun x w' => x = .returned (.tuple #[evV { e with id := 0 }, .nilIface]) ∧ Below v.heap.size v w')) ∨
      ((∀ v, GlobE v → Calls Tryd.prog 17 #[evV e] v fun x w' => x = .returned (.tuple #[.string ⟨#[]⟩, .iface 46 (.int .i64 1)]) ∧ Below v.heap.size v w') ∧ (∀ v, Calls Tryd.prog 18 #[evV e] v fun x w' => x = .returned (.bool false) ∧ Below v.heap.size v w'))) := by
    show _ ∨ _
    rcases Classical.em (Rt e) with h | h
    · left
      refine ⟨eb (ET e), fun v hv => eprint_ok e v hv hw h, fun v hv => ?_⟩
      exact eparse_ok (eb (ET e)) { e with id := 0 } v hv (ET_short h) ⟨h, rfl, rfl⟩
    · right
      refine ⟨fun v _ => eprint_bad e v hw h, fun v => (right_any e v hw).mono ?_⟩
      rintro x w' ⟨⟨b, rfl, hb⟩, hw'⟩
      refine ⟨?_, hw'⟩
      cases b
      · rfl
      · exact absurd (hb.1 rfl) h
  obtain ⟨id, item, kind, qty, price, ofI, day⟩ := e
  have HG := hidN hg
  clear hg hw hs
  unfold evV at HP HQ
  unfold evV
  simp only at *
  obtain ⟨W0, hW⟩ : ∃ W, W = w.alloc (.cells #[.int .i64 id, .string item, .int .i64 kind, .int .i64 qty, .int .i64 price, .int .i64 ofI, .int .i64 day] 37) := ⟨_, rfl⟩
  have hB0 : Below w.heap.size w W0 := by rw [hW]; exact (Below.refl _ _).alloc (Nat.le_refl _) _
  have hX0 : EvF W0 w.heap.size ⟨id, item, kind, qty, price, ofI, day⟩ := by
    refine ⟨?_, fun k => ?_⟩
    · rw [hW]; constructor <;> simp
    · rw [hW]; simp
  go_enter Tryd.func5, Tryd.ntmps5
  go_wp2_with fail
  rw [← hW]
  clear hW
  refine (HH.out _ (HG.out.below hB0)).mono ?_
  rintro x W1 ⟨rfl, hb1⟩
  have hB1 := hB0.trans (hb1.mono hB0.size)
  have hX1 := hX0.below hb1
  clear HH hB0 hX0 hb1
  go_wp2_with fail
  rcases HP.out with ⟨⟨yid, yitem, ykind, yqty, yprice, yof, yday⟩, hy0, hp1, hp2⟩ | hp1
  · simp only at hy0 hp1 hp2
    subst hy0
    have HP1 := hidN hp1
    have HP2 := hidN hp2
    clear HP hp1 hp2
    refine (HP1.out _ (HG.out.below hB1)).mono ?_
    rintro x W2 ⟨rfl, hb2⟩
    obtain ⟨W3, hW3⟩ : ∃ W, W = W2.alloc (.cells #[.int .i64 0, .string yitem, .int .i64 ykind, .int .i64 yqty, .int .i64 yprice, .int .i64 yof, .int .i64 yday] 37) := ⟨_, rfl⟩
    have hb3 : Below W1.heap.size W1 W3 := by rw [hW3]; exact hb2.alloc hb2.size _
    have hB3 := hB1.trans (hb3.mono hB1.size)
    have hX3 := hX1.below hb3
    have hY3 : EvF W3 W2.heap.size ⟨0, yitem, ykind, yqty, yprice, yof, yday⟩ := by
      refine ⟨?_, fun k => ?_⟩
      · rw [hW3]; constructor <;> simp
      · rw [hW3]; simp
    go_wp2_with fail
    rw [← hW3]
    clear hW3 hb2 hb3 hB1 hX1 HP1
    refine (HP2.out _ (HG.out.below hB3)).mono ?_
    rintro x W4 ⟨rfl, hb4⟩
    have hB4 := hB3.trans (hb4.mono hB3.size)
    have hX4 := hX3.below hb4
    have y0 := (hY3.below hb4).ev.c0
    simp only at y0
    clear hB3 hX3 hY3 hb4 HP2
    obtain ⟨x0, x1, x2, x3, x4, x5, x6⟩ := hX4.ev
    simp only at x0 x1 x2 x3 x4 x5 x6
    have hcmp : (s.toList == s.toList) = true := by simp
    go_wp2_with fail
    clear hcmp y0
    rcases HQ.out with ⟨t, hq1, hq2⟩ | ⟨hq1, hq2⟩
    · have HQ1 := hidN hq1
      have HQ2 := hidN hq2
      clear HQ hq1 hq2
      refine (HQ1.out _ (HG.out.below hB4)).mono ?_
      rintro x W5 ⟨rfl, hb5⟩
      have hB5 := hB4.trans (hb5.mono hB4.size)
      have hX5 := hX4.below hb5
      clear x0 x1 x2 x3 x4 x5 x6 hX4 hB4 hb5 HQ1
      go_wp2_with fail
      refine (HQ2.out _ (HG.out.below hB5)).mono ?_
      rintro x W6 ⟨rfl, hb6⟩
      have hB6 := hB5.trans (hb6.mono hB5.size)
      have hX6 := hX5.below hb6
      obtain ⟨x0, x1, x2, x3, x4, x5, x6⟩ := hX6.ev
      have xf := hX6.fz
      simp only at x0 x1 x2 x3 x4 x5 x6
      have hlt := World.block_lt_of_cell? _ _ x0
      simp only at hlt
      have hne : ¬ W6.heap.size = w.heap.size := by omega
      have hne' : ¬ w.heap.size = W6.heap.size := by omega
      clear hX6 hX5 hB5 hb6 HQ2 HG
      go_wp2
      go_ret
      exact ⟨rfl, (hB6.setCell (Nat.le_refl _) _).alloc (by simp; omega) _⟩
    · have HQ1 := hidN hq1
      have HQ2 := hidN hq2
      clear HQ hq1 hq2
      refine (HQ1.out _ (HG.out.below hB4)).mono ?_
      rintro x W5 ⟨rfl, hb5⟩
      have hB5 := hB4.trans (hb5.mono hB4.size)
      obtain ⟨y0, y1, y2, y3, y4, y5, y6⟩ := (hX4.below hb5).ev
      simp only at y0 y1 y2 y3 y4 y5 y6
      clear x0 x1 x2 x3 x4 x5 x6 hX4 hB4 hb5 HQ1
      go_wp2_with fail
      refine (HQ2.out _).mono ?_
      rintro x W6 ⟨rfl, hb6⟩
      go_wp2
      go_ret
      exact ⟨rfl, hB5.trans (hb6.mono hB5.size)⟩
  · have HP1 := hidN hp1
    clear HP hp1
    unfold ev0 at HP1
    simp only at HP1
    refine (HP1.out _ (HG.out.below hB1)).mono ?_
    rintro x W2 ⟨rfl, hb2⟩
    obtain ⟨W4, hW4⟩ : ∃ W, W = W2.alloc (.cells #[.int .i64 0, .string ⟨#[]⟩, .int .i64 0, .int .i64 0, .int .i64 0, .int .i64 0, .int .i64 0] 37) := ⟨_, rfl⟩
    have hb4 : Below W1.heap.size W1 W4 := by rw [hW4]; exact hb2.alloc hb2.size _
    have hB4 := hB1.trans (hb4.mono hB1.size)
    have hX4 := hX1.below hb4
    obtain ⟨u0, u1, u2, u3, u4, u5, u6⟩ := (hX1.below hb2).ev
    simp only at u0 u1 u2 u3 u4 u5 u6
    have hlt := World.block_lt_of_cell? _ _ u0
    simp only at hlt
    have hne : ¬ W2.heap.size = w.heap.size := by omega
    have hne' : ¬ w.heap.size = W2.heap.size := by omega
    go_wp2_with fail
    rw [← hW4]
    clear hW4 hb2 hb4 hB1 hX1 HP1 u0 u1 u2 u3 u4 u5 u6 hlt hne hne'
    obtain ⟨x0, x1, x2, x3, x4, x5, x6⟩ := hX4.ev
    rcases HQ.out with ⟨t, hq1, hq2⟩ | ⟨hq1, hq2⟩
    · have HQ1 := hidN hq1
      have HQ2 := hidN hq2
      clear HQ hq1 hq2
      refine (HQ1.out _ (HG.out.below hB4)).mono ?_
      rintro x W5 ⟨rfl, hb5⟩
      have hB5 := hB4.trans (hb5.mono hB4.size)
      have hX5 := hX4.below hb5
      clear x0 x1 x2 x3 x4 x5 x6 hX4 hB4 hb5 HQ1
      go_wp2_with fail
      refine (HQ2.out _ (HG.out.below hB5)).mono ?_
      rintro x W6 ⟨rfl, hb6⟩
      have hB6 := hB5.trans (hb6.mono hB5.size)
      have hX6 := hX5.below hb6
      obtain ⟨x0, x1, x2, x3, x4, x5, x6⟩ := hX6.ev
      have xf := hX6.fz
      simp only at x0 x1 x2 x3 x4 x5 x6
      have hlt := World.block_lt_of_cell? _ _ x0
      simp only at hlt
      have hne : ¬ W6.heap.size = w.heap.size := by omega
      have hne' : ¬ w.heap.size = W6.heap.size := by omega
      clear hX6 hX5 hB5 hb6 HQ2 HG
      go_wp2
      go_ret
      exact ⟨rfl, (hB6.setCell (Nat.le_refl _) _).alloc (by simp; omega) _⟩
    · have HQ1 := hidN hq1
      have HQ2 := hidN hq2
      clear HQ hq1 hq2
      refine (HQ1.out _ (HG.out.below hB4)).mono ?_
      rintro x W5 ⟨rfl, hb5⟩
      have hB5 := hB4.trans (hb5.mono hB4.size)
      obtain ⟨y0, y1, y2, y3, y4, y5, y6⟩ := (hX4.below hb5).ev
      simp only at y0 y1 y2 y3 y4 y5 y6
      clear x0 x1 x2 x3 x4 x5 x6 hX4 hB4 hb5 HQ1
      go_wp2_with fail
      refine (HQ2.out _).mono ?_
      rintro x W6 ⟨rfl, hb6⟩
      go_wp2
      go_ret
      exact ⟨rfl, hB5.trans (hb6.mono hB5.size)⟩
end Go.Proofs.YtapkandekfndoaaDoor
