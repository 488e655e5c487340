/- The walk of tallymankeep.EventOrder: it returns true. -/
import Derived.Test.YtapkandekfndoaaDoorEventFact
import Derived.Test.YtapkandekfndoaaDoorEventCompare
namespace Go.Proofs.YtapkandekfndoaaDoor
open Go.RowKit
theorem sign_any (n : Int) (w : World) (h0 : -1 ≤ n) (h1 : n ≤ 1) : Calls Tryd.prog 19 #[.int .i64 n] w fun e w' => e = .returned (.int .i64 n) ∧ w' = w := by
  have h : n = -1 ∨ n = 0 ∨ n = 1 := by omega
  clear h0 h1
  rcases h with rfl | rfl | rfl
  · go_enter Tryd.func19, Tryd.ntmps19
    go_wp2
    go_ret
    exact ⟨rfl, rfl⟩
  · go_enter Tryd.func19, Tryd.ntmps19
    go_wp2
    go_ret
    exact ⟨rfl, rfl⟩
  · go_enter Tryd.func19, Tryd.ntmps19
    go_wp2
    go_ret
    exact ⟨rfl, rfl⟩
theorem ev_alloc (V : World) (e : Ev) : EvAt (V.alloc (.cells #[.int .i64 e.id, .string e.item, .int .i64 e.kind, .int .i64 e.qty, .int .i64 e.price, .int .i64 e.ofI, .int .i64 e.day] 37)) V.heap.size e := by constructor <;> simp
/-- One is ahead of another. -/
def Ahd (a b : Ev) : Prop := a.day < b.day ∨ (a.day = b.day ∧ (a.kind < b.kind ∨ (a.kind = b.kind ∧ a.id < b.id)))
theorem cmpI_cases (x y : Int) : (x < y ∧ cmpI x y = -1) ∨ (x = y ∧ cmpI x y = 0) ∨ (y < x ∧ cmpI x y = 1) := by
  unfold cmpI
  split
  · left; exact ⟨‹_›, rfl⟩
  · split
    · right; right; exact ⟨‹_›, rfl⟩
    · right; left; exact ⟨by omega, rfl⟩
theorem cmpE_cases (a b : Ev) : (Ahd a b ∧ cmpE a b = -1) ∨ ((a.day = b.day ∧ a.kind = b.kind ∧ a.id = b.id) ∧ cmpE a b = 0) ∨ (Ahd b a ∧ cmpE a b = 1) := by
  unfold cmpE Ahd orI
  rcases cmpI_cases a.day b.day with ⟨h1, e1⟩ | ⟨h1, e1⟩ | ⟨h1, e1⟩
  · rw [e1, if_neg (by decide)]; omega
  · rw [e1, if_pos rfl]
    rcases cmpI_cases a.kind b.kind with ⟨h2, e2⟩ | ⟨h2, e2⟩ | ⟨h2, e2⟩
    · rw [e2, if_neg (by decide)]; omega
    · rw [e2, if_pos rfl]
      rcases cmpI_cases a.id b.id with ⟨h3, e3⟩ | ⟨h3, e3⟩ | ⟨h3, e3⟩
      · rw [e3]; omega
      · rw [e3]; omega
      · rw [e3]; omega
    · rw [e2, if_neg (by decide)]; omega
  · rw [e1, if_neg (by decide)]; omega
/-- What the statement asks of the order. -/
theorem cmpE_facts (a b c : Ev) : (-1 ≤ cmpE a b ∧ cmpE a b ≤ 1) ∧ cmpE b a = -cmpE a b ∧ (cmpE a b = cmpE b c → cmpE a c = cmpE a b) ∧ (cmpE a b = 0 → cmpE a c = cmpE b c) ∧ (cmpE a b = 0 ↔ (a.day = b.day ∧ a.kind = b.kind ∧ a.id = b.id)) := by
  have h1 := cmpE_cases a b
  have h2 := cmpE_cases b a
  have h3 := cmpE_cases b c
  have h4 := cmpE_cases a c
  unfold Ahd at *
  refine ⟨by omega, by omega, by omega, by omega, by omega⟩
set_option maxHeartbeats 8000000 in
theorem order_walk (a b c : Ev) (w : World) (hg : GlobE w) :
    Calls Tryd.prog 6 #[evV a, evV b, evV c] w fun e w' => e = .returned (.bool true) ∧ Below w.heap.size w w' := by
  obtain ⟨⟨m0, m1⟩, hba, ht, hs, hz⟩ := cmpE_facts a b c
  obtain ⟨⟨n0, n1⟩, -, -, -, -⟩ := cmpE_facts b c a
  obtain ⟨⟨k0, k1⟩, -, -, -, -⟩ := cmpE_facts a c b
  have HAB := hidN (compare_any a b)
  have HBC := hidN (compare_any b c)
  have HAC := hidN (compare_any a c)
  have HBA := hidN (compare_any b a)
  rw [hba] at HBA
  obtain ⟨m, hm⟩ : ∃ x, cmpE a b = x := ⟨_, rfl⟩
  obtain ⟨n, hn⟩ : ∃ x, cmpE b c = x := ⟨_, rfl⟩
  obtain ⟨k, hk⟩ : ∃ x, cmpE a c = x := ⟨_, rfl⟩
  rw [hm] at m0 m1 ht hs hz HAB HBA
  rw [hn] at n0 n1 ht hs HBC
  rw [hk] at k0 k1 ht hs HAC
  clear hba hm hn hk
  obtain ⟨id, item, kind, qty, price, ofI, day⟩ := a
  obtain ⟨id2, item2, kind2, qty2, price2, ofI2, day2⟩ := b
  obtain ⟨id3, item3, kind3, qty3, price3, ofI3, day3⟩ := c
  have HT := hidN ht
  have HS := hidN hs
  have HZ := hidN hz
  clear ht hs hz
  unfold evV at *
  simp only at *
  have hU := up_ne
  have HH := hidN (fun v hv => happened_any v hv)
  obtain ⟨W0, hW⟩ : ∃ W, W = ((w.alloc (.cells #[.int .i64 id, .string item, .int .i64 kind, .int .i64 qty, .int .i64 price, .int .i64 ofI, .int .i64 day] 37)).alloc (.cells #[.int .i64 id2, .string item2, .int .i64 kind2, .int .i64 qty2, .int .i64 price2, .int .i64 ofI2, .int .i64 day2] 37)).alloc (.cells #[.int .i64 id3, .string item3, .int .i64 kind3, .int .i64 qty3, .int .i64 price3, .int .i64 ofI3, .int .i64 day3] 37) := ⟨_, rfl⟩
  have hEa : EvAt (w.alloc (.cells #[.int .i64 id, .string item, .int .i64 kind, .int .i64 qty, .int .i64 price, .int .i64 ofI, .int .i64 day] 37)) w.heap.size ⟨id, item, kind, qty, price, ofI, day⟩ := by constructor <;> simp
  have hFa : EvAt ((w.alloc (.cells #[.int .i64 id, .string item, .int .i64 kind, .int .i64 qty, .int .i64 price, .int .i64 ofI, .int .i64 day] 37)).alloc (.cells #[.int .i64 id2, .string item2, .int .i64 kind2, .int .i64 qty2, .int .i64 price2, .int .i64 ofI2, .int .i64 day2] 37)) (w.heap.size + 1) ⟨id2, item2, kind2, qty2, price2, ofI2, day2⟩ := by constructor <;> simp
  have hEb : EvAt ((w.alloc (.cells #[.int .i64 id, .string item, .int .i64 kind, .int .i64 qty, .int .i64 price, .int .i64 ofI, .int .i64 day] 37)).alloc (.cells #[.int .i64 id2, .string item2, .int .i64 kind2, .int .i64 qty2, .int .i64 price2, .int .i64 ofI2, .int .i64 day2] 37)) w.heap.size ⟨id, item, kind, qty, price, ofI, day⟩ := hEa.below ((Below.refl _ _).alloc (Nat.le_refl _) _)
  have hE0 : EvAt W0 w.heap.size ⟨id, item, kind, qty, price, ofI, day⟩ := by
    rw [hW]; exact hEb.below ((Below.refl _ _).alloc (Nat.le_refl _) _)
  have hF0 : EvAt W0 (w.heap.size + 1) ⟨id2, item2, kind2, qty2, price2, ofI2, day2⟩ := by
    rw [hW]; exact hFa.below ((Below.refl _ _).alloc (Nat.le_refl _) _)
  have hI0 : EvAt W0 (w.heap.size + 1 + 1) ⟨id3, item3, kind3, qty3, price3, ofI3, day3⟩ := by
    have hz : ((w.alloc (.cells #[.int .i64 id, .string item, .int .i64 kind, .int .i64 qty, .int .i64 price, .int .i64 ofI, .int .i64 day] 37)).alloc (.cells #[.int .i64 id2, .string item2, .int .i64 kind2, .int .i64 qty2, .int .i64 price2, .int .i64 ofI2, .int .i64 day2] 37)).heap.size = w.heap.size + 1 + 1 := by simp
    rw [hW, ← hz]; exact ev_alloc _ ⟨id3, item3, kind3, qty3, price3, ofI3, day3⟩
  clear hEa hFa hEb
  have hB0 : Below w.heap.size w W0 := by rw [hW]; exact (((Below.refl _ _).alloc (Nat.le_refl _) _).alloc (by simp) _).alloc (by simp; omega) _
  have HG := hidN (hg.below hB0)
  clear hg
  go_enter Tryd.func6, Tryd.ntmps6
  go_wp2_with fail
  rw [← hW]
  clear hW
  refine (HH.out _ HG.out).mono ?_
  rintro x W1 ⟨rfl, hb1⟩
  go_wp2_with fail
  refine wp_region_mix [(true, 0), (true, 1), (true, 2), (true, 5), (true, 6), (true, 7), (true, 10), (true, 11), (true, 12), (false, 3), (false, 4), (false, 8), (false, 9), (false, 13), (false, 14), (true, 15), (true, 16), (true, 17)] (by kernel_rfl) (by kernel_rfl) ?_
  obtain ⟨W2, hW2⟩ : ∃ W, W = W1.drew := ⟨_, rfl⟩
  rw [← hW2]
  have hb2 : Below W0.heap.size W0 W2 := by rw [hW2]; exact hb1.trans ((below_drew _).mono hb1.size)
  have hB2 := hB0.trans (hb2.mono hB0.size)
  have hE := hE0.below hb2
  have hF := hF0.below hb2
  have hI := hI0.below hb2
  clear hW2 hb1 hb2 hE0 hF0 hI0 hB0 HG HH
  obtain ⟨e0, e1, e2, e3, e4, e5, e6⟩ : (∀ n : Up W2, n.v.cell? ⟨w.heap.size, 0, none⟩ = _) ∧ (∀ n : Up W2, n.v.cell? ⟨w.heap.size, 1, none⟩ = _) ∧ (∀ n : Up W2, n.v.cell? ⟨w.heap.size, 2, none⟩ = _) ∧ (∀ n : Up W2, n.v.cell? ⟨w.heap.size, 3, none⟩ = _) ∧ (∀ n : Up W2, n.v.cell? ⟨w.heap.size, 4, none⟩ = _) ∧ (∀ n : Up W2, n.v.cell? ⟨w.heap.size, 5, none⟩ = _) ∧ (∀ n : Up W2, n.v.cell? ⟨w.heap.size, 6, none⟩ = _) := ⟨fun n => (hE.up n).c0, fun n => (hE.up n).c1, fun n => (hE.up n).c2, fun n => (hE.up n).c3, fun n => (hE.up n).c4, fun n => (hE.up n).c5, fun n => (hE.up n).c6⟩
  obtain ⟨f0, f1, f2, f3, f4, f5, f6⟩ : (∀ n : Up W2, n.v.cell? ⟨w.heap.size + 1, 0, none⟩ = _) ∧ (∀ n : Up W2, n.v.cell? ⟨w.heap.size + 1, 1, none⟩ = _) ∧ (∀ n : Up W2, n.v.cell? ⟨w.heap.size + 1, 2, none⟩ = _) ∧ (∀ n : Up W2, n.v.cell? ⟨w.heap.size + 1, 3, none⟩ = _) ∧ (∀ n : Up W2, n.v.cell? ⟨w.heap.size + 1, 4, none⟩ = _) ∧ (∀ n : Up W2, n.v.cell? ⟨w.heap.size + 1, 5, none⟩ = _) ∧ (∀ n : Up W2, n.v.cell? ⟨w.heap.size + 1, 6, none⟩ = _) := ⟨fun n => (hF.up n).c0, fun n => (hF.up n).c1, fun n => (hF.up n).c2, fun n => (hF.up n).c3, fun n => (hF.up n).c4, fun n => (hF.up n).c5, fun n => (hF.up n).c6⟩
  obtain ⟨g0, g1, g2, g3, g4, g5, g6⟩ : (∀ n : Up W2, n.v.cell? ⟨w.heap.size + 1 + 1, 0, none⟩ = _) ∧ (∀ n : Up W2, n.v.cell? ⟨w.heap.size + 1 + 1, 1, none⟩ = _) ∧ (∀ n : Up W2, n.v.cell? ⟨w.heap.size + 1 + 1, 2, none⟩ = _) ∧ (∀ n : Up W2, n.v.cell? ⟨w.heap.size + 1 + 1, 3, none⟩ = _) ∧ (∀ n : Up W2, n.v.cell? ⟨w.heap.size + 1 + 1, 4, none⟩ = _) ∧ (∀ n : Up W2, n.v.cell? ⟨w.heap.size + 1 + 1, 5, none⟩ = _) ∧ (∀ n : Up W2, n.v.cell? ⟨w.heap.size + 1 + 1, 6, none⟩ = _) := ⟨fun n => (hI.up n).c0, fun n => (hI.up n).c1, fun n => (hI.up n).c2, fun n => (hI.up n).c3, fun n => (hI.up n).c4, fun n => (hI.up n).c5, fun n => (hI.up n).c6⟩
  repeat (refine mix_q rfl ?_; go_big_quiet_step (fail); refine wpQuiet_nil ?_)
  clear e0 e1 e2 e3 e4 e5 e6 f0 f1 f2 f3 f4 f5 f6 g0 g1 g2 g3 g4 g5 g6 hI
  refine mix_n rfl ?_
  go_wp2_with fail
  refine (HAB.out _).mono ?_
  rintro x W3 ⟨rfl, hb3⟩
  go_wp2_with fail
  refine ⟨rfl, hb3, ?_⟩
  refine mix_n rfl ?_
  go_wp2_with fail
  refine (sign_any m _ m0 m1).mono ?_
  rintro x w' ⟨rfl, hw⟩
  subst w'
  go_wp2_with fail
  refine ⟨rfl, Below.refl _ _, ?_⟩
  refine mix_n rfl ?_
  go_wp2_with fail
  refine (HBC.out _).mono ?_
  rintro x W4 ⟨rfl, hb4⟩
  go_wp2_with fail
  refine ⟨rfl, hb4, ?_⟩
  refine mix_n rfl ?_
  go_wp2_with fail
  refine (sign_any n _ n0 n1).mono ?_
  rintro x w' ⟨rfl, hw⟩
  subst w'
  go_wp2_with fail
  refine ⟨rfl, Below.refl _ _, ?_⟩
  refine mix_n rfl ?_
  go_wp2_with fail
  refine (HAC.out _).mono ?_
  rintro x W5 ⟨rfl, hb5⟩
  go_wp2_with fail
  refine ⟨rfl, hb5, ?_⟩
  refine mix_n rfl ?_
  go_wp2_with fail
  refine (sign_any k _ k0 k1).mono ?_
  rintro x w' ⟨rfl, hw⟩
  subst w'
  go_wp2_with fail
  refine ⟨rfl, Below.refl _ _, ?_⟩
  repeat (refine mix_q rfl ?_; go_big_quiet_step (fail); refine wpQuiet_nil ?_)
  refine mix_nil ?_
  have hE5 := ((hE.below hb3).below hb4).below hb5
  have hF5 := ((hF.below hb3).below hb4).below hb5
  have hB3 := hB2.trans (hb3.mono hB2.size)
  have hB4 := hB3.trans (hb4.mono hB3.size)
  have hB5 := hB4.trans (hb5.mono hB4.size)
  obtain ⟨e0, e1, e2, e3, e4, e5, e6⟩ := hE5
  obtain ⟨f0, f1, f2, f3, f4, f5, f6⟩ := hF5
  simp only at e0 e1 e2 e3 e4 e5 e6 f0 f1 f2 f3 f4 f5 f6
  clear hE hF hb3 hb4 hb5 hB2 hB3 hB4 HAB HBC HAC hU
  go_wp2_with fail
  refine (HBA.out _).mono ?_
  rintro x W6 ⟨rfl, hb6⟩
  have hB6 := hB5.trans (hb6.mono hB5.size)
  have e0' := below_cell hb6 e0
  have e2' := below_cell hb6 e2
  have e6' := below_cell hb6 e6
  have f0' := below_cell hb6 f0
  have f2' := below_cell hb6 f2
  have f6' := below_cell hb6 f6
  clear e0 e1 e2 e3 e4 e5 e6 f0 f1 f2 f3 f4 f5 f6 HBA hB5 hb6
  go_wp2_with fail
  refine (sign_any (-m) _ (by omega) (by omega)).mono ?_
  rintro x w' ⟨rfl, hw⟩
  subst w'
  have hm : m = -1 ∨ m = 0 ∨ m = 1 := by omega
  have hn : n = -1 ∨ n = 0 ∨ n = 1 := by omega
  clear m0 m1 n0 n1 k0 k1
  rcases hm with rfl | rfl | rfl
  · have hz : ¬ (day = day2 ∧ kind = kind2 ∧ id = id2) := fun h => absurd (HZ.out.2 h) (by decide)
    clear HZ HS
    rcases hn with rfl | rfl | rfl
    · obtain rfl := HT.out rfl
      clear HT
      by_cases y1 : day = day2
      · subst y1
        by_cases y2 : kind = kind2
        · subst y2
          have y3 : ¬ id = id2 := fun h => hz ⟨rfl, rfl, h⟩
          clear hz
          go_wp2
          go_ret
          exact ⟨by simp [y3], hB6⟩
        · clear hz
          go_wp2
          go_ret
          exact ⟨rfl, hB6⟩
      · clear hz
        go_wp2
        go_ret
        exact ⟨rfl, hB6⟩
    · clear HT
      by_cases y1 : day = day2
      · subst y1
        by_cases y2 : kind = kind2
        · subst y2
          have y3 : ¬ id = id2 := fun h => hz ⟨rfl, rfl, h⟩
          clear hz
          go_wp2
          go_ret
          exact ⟨by simp [y3], hB6⟩
        · clear hz
          go_wp2
          go_ret
          exact ⟨rfl, hB6⟩
      · clear hz
        go_wp2
        go_ret
        exact ⟨rfl, hB6⟩
    · clear HT
      by_cases y1 : day = day2
      · subst y1
        by_cases y2 : kind = kind2
        · subst y2
          have y3 : ¬ id = id2 := fun h => hz ⟨rfl, rfl, h⟩
          clear hz
          go_wp2
          go_ret
          exact ⟨by simp [y3], hB6⟩
        · clear hz
          go_wp2
          go_ret
          exact ⟨rfl, hB6⟩
      · clear hz
        go_wp2
        go_ret
        exact ⟨rfl, hB6⟩
  · obtain ⟨rfl, rfl, rfl⟩ := HZ.out.1 rfl
    obtain rfl := HS.out rfl
    clear HZ HS HT
    rcases hn with rfl | rfl | rfl
    · go_wp2
      go_ret
      exact ⟨rfl, hB6⟩
    · go_wp2
      go_ret
      exact ⟨rfl, hB6⟩
    · go_wp2
      go_ret
      exact ⟨rfl, hB6⟩
  · have hz : ¬ (day = day2 ∧ kind = kind2 ∧ id = id2) := fun h => absurd (HZ.out.2 h) (by decide)
    clear HZ HS
    rcases hn with rfl | rfl | rfl
    · clear HT
      by_cases y1 : day = day2
      · subst y1
        by_cases y2 : kind = kind2
        · subst y2
          have y3 : ¬ id = id2 := fun h => hz ⟨rfl, rfl, h⟩
          clear hz
          go_wp2
          go_ret
          exact ⟨by simp [y3], hB6⟩
        · clear hz
          go_wp2
          go_ret
          exact ⟨rfl, hB6⟩
      · clear hz
        go_wp2
        go_ret
        exact ⟨rfl, hB6⟩
    · clear HT
      by_cases y1 : day = day2
      · subst y1
        by_cases y2 : kind = kind2
        · subst y2
          have y3 : ¬ id = id2 := fun h => hz ⟨rfl, rfl, h⟩
          clear hz
          go_wp2
          go_ret
          exact ⟨by simp [y3], hB6⟩
        · clear hz
          go_wp2
          go_ret
          exact ⟨rfl, hB6⟩
      · clear hz
        go_wp2
        go_ret
        exact ⟨rfl, hB6⟩
    · obtain rfl := HT.out rfl
      clear HT
      by_cases y1 : day = day2
      · subst y1
        by_cases y2 : kind = kind2
        · subst y2
          have y3 : ¬ id = id2 := fun h => hz ⟨rfl, rfl, h⟩
          clear hz
          go_wp2
          go_ret
          exact ⟨by simp [y3], hB6⟩
        · clear hz
          go_wp2
          go_ret
          exact ⟨rfl, hB6⟩
      · clear hz
        go_wp2
        go_ret
        exact ⟨rfl, hB6⟩
end Go.Proofs.YtapkandekfndoaaDoor
