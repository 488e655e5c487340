/- The walk of (*cost.stock).count. -/
import Derived.Test.YtcfgacdcgljbaaaGreatDoorBnN
import Derived.Test.YtcfgacdcgljbaaaGreatDoorCoIdx
import Derived.Test.YtcfgacdcgljbaaaGreatDoorMixK
namespace Go.Proofs.YtcfgacdcgljbaaaGreatDoor
open Go.RowKit
set_option maxHeartbeats 2000000 in
theorem count_does {pb : Nat} {sv : Value} {s : Stk} {w : World} {n : Nat} (h : StkAt w pb sv s) (ok : StkOK n s) (hn : n ≤ 10000) (e : Ev) (hk : e.kind = 4) (hq : 0 ≤ e.qty ∧ e.qty ≤ 100000) :
    Calls Tryz.prog 151 #[.pointer (some ⟨pb, 0, none⟩), evV e] w fun r w' => r = .returned (.agg (linC (doE s e).2).toArray) ∧ ∃ sv', StkAt w' pb sv' (doE s e).1 ∧ Turned w w' pb sv ∧ Fresh w sv sv' := by
  have HDO : Hid (doE s e = if sumQ s.ys < e.qty then (⟨s.ys ++ [⟨e.id, e.qty - sumQ s.ys, (e.qty - sumQ s.ys) * s.price⟩], s.price⟩, ⟨e.id, (e.qty - sumQ s.ys) * s.price, 0, 0, true⟩)
      else (⟨(tk s.ys (sumQ s.ys - e.qty)).1, s.price⟩, ⟨e.id, (tk s.ys (sumQ s.ys - e.qty)).2.1, 0, 0, false⟩)) := by
    show _ = _
    unfold doE; rw [if_neg (by omega), if_neg (by omega), if_neg (by omega)]
  have HS : Hid (StkAt w pb sv s) := h
  have HOK : Hid (StkOK n s) := ok
  have hl : s.ys.length ≤ 1000000 := by have := ok.len; omega
  have hsq : sumQ s.ys ≤ 1000000000 := by have := ok.q; omega
  have hsv : sumV s.ys ≤ 4000000000000000000 := by have := ok.v; omega
  have hs0 := sum_nonneg ok.ok
  clear h ok
  obtain ⟨id, item, kind, qty, price, ofI, day⟩ := e
  unfold evV
  simp only at HDO hk hq ⊢
  clear hk
  obtain ⟨W0, hW0⟩ : ∃ W, W = (w.alloc (.cells #[.int .i64 id, .string item, .int .i64 kind, .int .i64 qty, .int .i64 price, .int .i64 ofI, .int .i64 day] 44)).alloc (.cells #[.int .i64 0, .int .i64 0, .int .i64 0, .int .i64 0, .bool false] 114) := ⟨_, rfl⟩
  have hB0 : Below w.heap.size w W0 := by rw [hW0]; exact ((Below.refl _ _).alloc (Nat.le_refl _) _).alloc (by simp) _
  have H0 := HS.out.below hB0
  have hE : EvAt W0 w.heap.size ⟨id, item, kind, qty, price, ofI, day⟩ := by rw [hW0]; constructor <;> simp
  have hR : ∀ j, j < 5 → W0.cell? ⟨w.heap.size + 1, j, none⟩ = some (#[Value.int .i64 0, .int .i64 0, .int .i64 0, .int .i64 0, .bool false][j]!) ∧ W0.frozen? ⟨w.heap.size + 1, j, none⟩ = false := by
    intro j hj
    rw [hW0]
    have : j = 0 ∨ j = 1 ∨ j = 2 ∨ j = 3 ∨ j = 4 := by omega
    rcases this with rfl | rfl | rfl | rfl | rfl <;> simp
  have hsz0 : W0.heap.size = w.heap.size + 2 := by rw [hW0]; simp
  have hsum := sum_any s.ys sv W0 H0.lay HOK.out.ok hsq hsv hl
  have b0 := H0.c0
  rw [hW0] at b0
  have HW0 : Hid (W0 = _) := hW0
  have HR : Hid _ := hR
  have HE : Hid (EvAt W0 w.heap.size ⟨id, item, kind, qty, price, ofI, day⟩) := hE
  have HH0 : Hid (StkAt W0 pb sv s) := H0
  clear hW0 hR hE H0
  go_enter Tryz.func151, Tryz.ntmps151
  go_wp2_with fail
  rw [← HW0.out]
  refine hsum.mono ?_
  rintro r0 w1 ⟨rfl, hb1⟩
  have H1 := HH0.out.below hb1
  have E1 := HE.out.below hb1
  have e0 := E1.c0
  have e3 := E1.c3
  simp only at e0 e3
  have hB1 : Below w.heap.size w w1 := hB0.trans (hb1.mono hB0.size)
  by_cases hlt : sumQ s.ys < qty
  · have HD : Hid (doE s ⟨id, item, kind, qty, price, ofI, day⟩ = (⟨s.ys ++ [⟨id, qty - sumQ s.ys, (qty - sumQ s.ys) * s.price⟩], s.price⟩, ⟨id, (qty - sumQ s.ys) * s.price, 0, 0, true⟩)) := by
      show _ = _
      rw [HDO.out, if_pos hlt]
    go_wp2_with fail
    refine wp_region_keep (SameAt w.heap.size) [(true, 0), (true, 1), (true, 2), (true, 3), (true, 4), (true, 5), (true, 6), (true, 7), (true, 8), (false, 9), (true, 10), (false, 11)] (sameAt_refl _) (sameAt_trans _) (by kernel_rfl) (by kernel_rfl) ?_
    obtain ⟨W2, hW2⟩ : ∃ W, W = w1.drew := ⟨_, rfl⟩
    rw [← hW2]
    have hb2 : Below w1.heap.size w1 W2 := by rw [hW2]; exact below_drew _
    have H2 := H1.below hb2
    have E2 := E1.below hb2
    have q0 := E2.c0
    have q3 := E2.c3
    simp only at q0 q3
    have hU := upK_ne w.heap.size
    have f0 := fun n : UpK (SameAt w.heap.size) W2 => n.cell q0
    have f3 := fun n : UpK (SameAt w.heap.size) W2 => n.cell q3
    have hB2 : Below w.heap.size w W2 := hB1.trans (hb2.mono hB1.size)
    have hR2 : ∀ j, j < 5 → W2.cell? ⟨w.heap.size + 1, j, none⟩ = some (#[Value.int .i64 0, .int .i64 0, .int .i64 0, .int .i64 0, .bool false][j]!) ∧ W2.frozen? ⟨w.heap.size + 1, j, none⟩ = false := fun j hj => by
      have hx := hb1.trans (hb2.mono hb1.size)
      exact ⟨(hx.cell (p := ⟨w.heap.size + 1, j, none⟩) (by show w.heap.size + 1 < _; omega)).trans (HR.out j hj).1, (hx.frozen (p := ⟨w.heap.size + 1, j, none⟩) (by show w.heap.size + 1 < _; omega)).trans (HR.out j hj).2⟩
    have hs2 : w.heap.size + 1 < W2.heap.size := by have := hb1.size; have := hb2.size; omega
    have HR2 : Hid _ := hR2
    have HE2 : Hid (EvAt W2 w.heap.size _) := E2
    clear hW2 E2 q0 q3 E1 e0 e3 H1 b0 hsum hb1 hb2 hR2
    repeat (refine keep_q rfl ?_; go_big_quiet_step (fail); refine wpQuiet_nil ?_)
    refine keep_n rfl ?_
    clear f0 f3
    go_wp2_with fail
    refine (put_does H2 hl id (qty - sumQ s.ys) (by omega) (by omega) HOK.out.p).mono ?_
    rintro r0 w3 ⟨rfl, sv3, S3, T3, F3⟩
    have hne1 : sv.ownBlock ≠ some (w.heap.size + 1) := fun e => by have := HS.out.lay.lt e; omega
    have hne0 : sv.ownBlock ≠ some w.heap.size := fun e => by have := HS.out.lay.lt e; omega
    have hpb := HS.out.lt
    have hsame : SameAt w.heap.size W2 w3 := T3.block _ (by omega) (by omega) hne0
    have e1 : w3.heap[w.heap.size + 1]? = W2.heap[w.heap.size + 1]? := T3.block _ hs2 (by omega) hne1
    have r0 := (World.cell?_of_block (a := ⟨w.heap.size + 1, 0, none⟩) e1).trans (HR2.out 0 (by omega)).1
    have r1 := (World.cell?_of_block (a := ⟨w.heap.size + 1, 1, none⟩) e1).trans (HR2.out 1 (by omega)).1
    have r2 := (World.cell?_of_block (a := ⟨w.heap.size + 1, 2, none⟩) e1).trans (HR2.out 2 (by omega)).1
    have r3 := (World.cell?_of_block (a := ⟨w.heap.size + 1, 3, none⟩) e1).trans (HR2.out 3 (by omega)).1
    have r4 := (World.cell?_of_block (a := ⟨w.heap.size + 1, 4, none⟩) e1).trans (HR2.out 4 (by omega)).1
    have z0 := (World.frozen?_of_block (a := ⟨w.heap.size + 1, 0, none⟩) e1).trans (HR2.out 0 (by omega)).2
    have z1 := (World.frozen?_of_block (a := ⟨w.heap.size + 1, 1, none⟩) e1).trans (HR2.out 1 (by omega)).2
    have z2 := (World.frozen?_of_block (a := ⟨w.heap.size + 1, 2, none⟩) e1).trans (HR2.out 2 (by omega)).2
    have z3 := (World.frozen?_of_block (a := ⟨w.heap.size + 1, 3, none⟩) e1).trans (HR2.out 3 (by omega)).2
    have z4 := (World.frozen?_of_block (a := ⟨w.heap.size + 1, 4, none⟩) e1).trans (HR2.out 4 (by omega)).2
    simp at r0 r1 r2 r3 r4
    clear e1
    have HS3 : Hid (StkAt w3 pb sv3 _) := S3
    have HT3 : Hid (Turned W2 w3 pb sv) := T3
    have HF3 : Hid (Fresh W2 sv sv3) := F3
    clear S3 T3 F3
    go_wp2_with fail
    refine ⟨rfl, hsame, ?_⟩
    refine keep_q rfl ?_
    go_big_quiet_step (fail)
    refine wpQuiet_nil ?_
    refine keep_n rfl ?_
    go_wp2_with fail
    refine ⟨rfl, (box5 w3 (w.heap.size + 1) (w.heap.size + 1) _ _ _ _ _ (Nat.le_refl _)).block _ (by omega), ?_⟩
    refine keep_nil ?_
    have hne3 : sv3.ownBlock ≠ some (w.heap.size + 1) := fun e => by
      rcases HF3.out _ e with x | x
      · exact hne1 x
      · omega
    have hTT : Turned w w3 pb sv := (Turned.of_below hB2).trans HT3.out (Fresh.refl _ _)
    have hB5 := fun v0 v1 v2 v3 v4 => box5 w3 w.heap.size (w.heap.size + 1) v0 v1 v2 v3 v4 (by omega)
    go_wp2
    refine bodyPost_ret (v := .agg #[.int .i64 id, .int .i64 ((qty - sumQ s.ys) * s.price), .int .i64 0, .int .i64 0, .bool true]) (by simp [results, Tryz.results151, go_sem, *]) rfl ⟨?_, sv3, ?_, hTT.onBelow (hB5 _ _ _ _ _), HF3.out.grow hB2.size⟩
    · rw [HD.out]; rfl
    · rw [HD.out]; exact HS3.out.set5 (by omega) hne3
  · have HD : Hid (doE s ⟨id, item, kind, qty, price, ofI, day⟩ = (⟨(tk s.ys (sumQ s.ys - qty)).1, s.price⟩, ⟨id, (tk s.ys (sumQ s.ys - qty)).2.1, 0, 0, false⟩)) := by
      show _ = _
      rw [HDO.out, if_neg hlt]
    have hR1 : ∀ j, j < 5 → w1.cell? ⟨w.heap.size + 1, j, none⟩ = some (#[Value.int .i64 0, .int .i64 0, .int .i64 0, .int .i64 0, .bool false][j]!) ∧ w1.frozen? ⟨w.heap.size + 1, j, none⟩ = false := fun j hj =>
      ⟨(hb1.cell (p := ⟨w.heap.size + 1, j, none⟩) (by show w.heap.size + 1 < _; omega)).trans (HR.out j hj).1, (hb1.frozen (p := ⟨w.heap.size + 1, j, none⟩) (by show w.heap.size + 1 < _; omega)).trans (HR.out j hj).2⟩
    have HR1 : Hid _ := hR1
    have HE1 : Hid (EvAt w1 w.heap.size _) := E1
    have hs1 : w.heap.size + 1 < w1.heap.size := by have := hb1.size; omega
    clear hR1 E1
    go_wp2_with fail
    refine (take_does H1 HOK.out.ok hsv (sumQ s.ys - qty) (by omega) (by omega)).mono ?_
    rintro r0 w3 ⟨rfl, sv3, S3, T3, F3⟩
    have hne1 : sv.ownBlock ≠ some (w.heap.size + 1) := fun e => by have := HS.out.lay.lt e; omega
    have hne0 : sv.ownBlock ≠ some w.heap.size := fun e => by have := HS.out.lay.lt e; omega
    have hpb := HS.out.lt
    have e1 : w3.heap[w.heap.size + 1]? = w1.heap[w.heap.size + 1]? := T3.block _ hs1 (by omega) hne1
    have e2 : w3.heap[w.heap.size]? = w1.heap[w.heap.size]? := T3.block _ (by omega) (by omega) hne0
    have r0 := (World.cell?_of_block (a := ⟨w.heap.size + 1, 0, none⟩) e1).trans (HR1.out 0 (by omega)).1
    have r1 := (World.cell?_of_block (a := ⟨w.heap.size + 1, 1, none⟩) e1).trans (HR1.out 1 (by omega)).1
    have r2 := (World.cell?_of_block (a := ⟨w.heap.size + 1, 2, none⟩) e1).trans (HR1.out 2 (by omega)).1
    have r3 := (World.cell?_of_block (a := ⟨w.heap.size + 1, 3, none⟩) e1).trans (HR1.out 3 (by omega)).1
    have r4 := (World.cell?_of_block (a := ⟨w.heap.size + 1, 4, none⟩) e1).trans (HR1.out 4 (by omega)).1
    have z0 := (World.frozen?_of_block (a := ⟨w.heap.size + 1, 0, none⟩) e1).trans (HR1.out 0 (by omega)).2
    have z1 := (World.frozen?_of_block (a := ⟨w.heap.size + 1, 1, none⟩) e1).trans (HR1.out 1 (by omega)).2
    have z2 := (World.frozen?_of_block (a := ⟨w.heap.size + 1, 2, none⟩) e1).trans (HR1.out 2 (by omega)).2
    have z3 := (World.frozen?_of_block (a := ⟨w.heap.size + 1, 3, none⟩) e1).trans (HR1.out 3 (by omega)).2
    have z4 := (World.frozen?_of_block (a := ⟨w.heap.size + 1, 4, none⟩) e1).trans (HR1.out 4 (by omega)).2
    have q0 := (World.cell?_of_block (a := ⟨w.heap.size, 0, none⟩) e2).trans HE1.out.c0
    simp at r0 r1 r2 r3 r4 q0
    have HS3 : Hid (StkAt w3 pb sv3 _) := S3
    have hne3 : sv3.ownBlock ≠ some (w.heap.size + 1) := fun e => by
      rcases F3 _ e with x | x
      · exact hne1 x
      · omega
    have hTT : Turned w w3 pb sv := (Turned.of_below hB1).trans T3 (Fresh.refl _ _)
    have HF3 : Hid (Fresh w sv sv3) := F3.grow hB1.size
    have hB5 := fun v0 v1 v2 v3 v4 => box5 w3 w.heap.size (w.heap.size + 1) v0 v1 v2 v3 v4 (by omega)
    have HTT : Hid (Turned w w3 pb sv) := hTT
    clear e1 e2 S3 T3 F3 H1 e0 e3 b0 hsum hb1 hTT
    generalize (tk s.ys (sumQ s.ys - qty)).2.1 = tv at HD ⊢
    generalize (tk s.ys (sumQ s.ys - qty)).2.2 = tm
    go_wp2
    refine bodyPost_ret (v := .agg #[.int .i64 id, .int .i64 tv, .int .i64 0, .int .i64 0, .bool false]) (by simp [results, Tryz.results151, go_sem, *]) rfl ⟨?_, sv3, ?_, HTT.out.onBelow (hB5 _ _ _ _ _), HF3.out⟩
    · rw [HD.out]; rfl
    · rw [HD.out]; exact HS3.out.set5 (by omega) hne3
end Go.Proofs.YtcfgacdcgljbaaaGreatDoor
