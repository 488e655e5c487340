/- The walk of slices.IndexFunc at layers, and of (*cost.stock).charge. -/
import Derived.Test.YtcfgacdcgljbaaaGreatDoorBnN
import Derived.Shelf.Abstract
import Derived.Shelf.SlSortCmp.InsertionK
namespace Go.Proofs.YtcfgacdcgljbaaaGreatDoor
open Go.RowKit Go.Shelf
/-- Where the first that is so stands. -/
def Found {α : Type} (p : α → Bool) (l : List α) (r : Int) : Prop := (r = -1 ∧ ∀ y ∈ l, p y = false) ∨ ∃ (k : Nat) (h : k < l.length), r = k ∧ p l[k] = true ∧ ∀ j (hj : j < l.length), j < k → p l[j] = false
set_option maxHeartbeats 1000000 in
theorem idx_lay (ys : List Lay) (v : Value) (w : World) (h : LayAt w v ys) (hl : ys.length ≤ 1000000) (f : Nat) (lb : Array Value) (p : Lay → Bool) (ef : ∀ args w, (callFunc f args).run Tryz.prog w = .ok (.enter f args) w)
    (hf : ∀ (y : Lay) (W : World), Below w.heap.size w W → Calls Tryz.prog f (#[.agg #[.int .i64 y.id, .int .i64 y.qty, .int .i64 y.val]] ++ lb) W fun e w' => e = .returned (.bool (p y)) ∧ Below W.heap.size W w') :
    Calls Tryz.prog 205 #[v, .func (.func f) #[] lb] w fun e w' => ∃ r : Int, e = .returned (.int .i64 r) ∧ Found p ys r ∧ Below w.heap.size w w' := by
  have HF : Hid (∀ (y : Lay) (W : World), Below w.heap.size w W → Calls Tryz.prog f (#[.agg #[.int .i64 y.id, .int .i64 y.qty, .int .i64 y.val]] ++ lb) W fun e w' => e = .returned (.bool (p y)) ∧ Below W.heap.size W w') := hf
  have HL : Hid (LayAt w v ys) := h
  clear hf h
  rcases HL.out.form with ⟨rfl, rfl⟩ | ⟨g, o, cap, rfl, hg, hc1, hc2⟩
  · go_enter Tryz.func205, Tryz.ntmps205
    go_wp2
    refine wp_loop_rounds 1 ?_
    rw [rounds_succ]
    go_wp2
    go_ret
    exact ⟨-1, rfl, Or.inl ⟨rfl, fun y hy => (by cases hy)⟩, Below.refl _ _⟩
  · go_enter Tryz.func205, Tryz.ntmps205
    go_wp2
    go_loopw [8] (fun i wr => ∃ k : Nat, k ≤ ys.length ∧ i = .int .i64 k ∧ Hid (∀ j (hj : j < ys.length), j < k → p ys[j] = false) ∧ Below w.heap.size w wr) (fun i _ => ys.length - (intOf i).toNat)
    case atStart => exact ⟨0, Nat.zero_le _, rfl, fun j _ hj => absurd hj (Nat.not_lt_zero _), Below.refl _ _⟩
    case round =>
      obtain ⟨k, hk, rfl, HN, hb⟩ := hrel
      by_cases hlt : k < ys.length
      · have hc := fun j hj => ((HL.out.below hb).cell k j hlt hj).1
        have c0 := hc 0 (by omega)
        have c1 := hc 1 (by omega)
        have c2 := hc 2 (by omega)
        obtain ⟨y, hy⟩ : ∃ y, y = ys[k] := ⟨_, rfl⟩
        have HY : Hid (ys[k] = y) := hy.symm
        rw [← hy] at c0 c1 c2
        have hcall := HF.out y wr hb
        clear hc hy
        obtain ⟨id, qty, val⟩ := y
        simp only [layC, List.getElem?_cons_zero, List.getElem?_cons_succ, Nat.add_zero] at c0 c1 c2 hcall
        generalize hpv : p ⟨id, qty, val⟩ = pv at hcall
        have HPV : Hid (p ys[k] = pv) := by rw [HY.out]; exact hpv
        clear hpv
        go_wp2_with fail
        refine hcall.mono ?_
        rintro e w1 ⟨rfl, hb1⟩
        have hb2 : Below w.heap.size w w1 := hb.trans (hb1.mono hb.size)
        clear hcall
        cases pv with
        | true =>
          go_wp2
          go_ret
          exact ⟨k, rfl, Or.inr ⟨k, hlt, rfl, HPV.out, HN.out⟩, hb2⟩
        | false =>
          go_wp2
          go_roundw
          case rel =>
            refine ⟨k + 1, by omega, by go_num, fun j hj hjk => ?_, hb2⟩
            rcases Nat.lt_or_eq_of_le (Nat.le_of_lt_succ hjk) with x | x
            · exact HN.out j hj x
            · subst x; exact HPV.out
          case measure => simp [intOf]; omega
      · obtain rfl : k = ys.length := by omega
        go_wp2
        go_ret
        exact ⟨-1, rfl, Or.inl ⟨rfl, fun y hy => by
          obtain ⟨j, hj, rfl⟩ := List.getElem_of_mem hy
          exact HN.out j hj hj⟩, hb⟩
theorem chg_none {o : Int} {ys : List Lay} (h : ∀ y ∈ ys, decide (y.id = o) = false) : hasId o ys = false := by
  unfold hasId
  rw [List.any_eq_false]
  intro y hy
  have := h y hy
  simpa using this
theorem chg_at {o p : Int} : ∀ (ys : List Lay) (k : Nat) (hk : k < ys.length), decide (ys[k].id = o) = true → (∀ j (hj : j < ys.length), j < k → decide (ys[j].id = o) = false) → hasId o ys = true ∧ chg o p ys = ys.set k ⟨ys[k].id, ys[k].qty, ys[k].val + p⟩
  | [], k, hk, _, _ => absurd hk (Nat.not_lt_zero _)
  | y :: ys, 0, hk, h, _ => by
    have e : y.id = o := by simpa using h
    simp [hasId, chg, e]
  | y :: ys, k + 1, hk, h, hn => by
    have e : ¬ y.id = o := of_decide_eq_false (hn 0 (Nat.zero_lt_succ _) (Nat.zero_lt_succ _))
    have ih := chg_at (o := o) (p := p) ys k (by simpa using hk) (by simpa using h) (fun j hj hjk => hn (j + 1) (Nat.succ_lt_succ hj) (Nat.succ_lt_succ hjk))
    have ih1 := ih.1
    unfold hasId at ih1 ⊢
    refine ⟨by rw [List.any_cons, ih1, Bool.or_true], ?_⟩
    unfold chg
    rw [if_neg e, ih.2]
    rfl
theorem box1 (w : World) (B b o : Nat) (v : Value) (h : B ≤ b) : Below B w (w.setCell ⟨b, o, none⟩ v) := ⟨rfl, rfl, rfl, by simp [World.setCell], fun k hk => Below.heap_setCell _ _ _ _ (by show k ≠ b; omega)⟩
/-- A result's box is written. -/
theorem box5 (w : World) (B b : Nat) (v0 v1 v2 v3 v4 : Value) (h : B ≤ b) : Below B w (((((w.setCell ⟨b, 0, none⟩ v0).setCell ⟨b, 1, none⟩ v1).setCell ⟨b, 2, none⟩ v2).setCell ⟨b, 3, none⟩ v3).setCell ⟨b, 4, none⟩ v4) :=
  ((((box1 w B b 0 v0 h).trans (box1 _ B b 1 v1 h)).trans (box1 _ B b 2 v2 h)).trans (box1 _ B b 3 v3 h)).trans (box1 _ B b 4 v4 h)
/-- A box behind what was there is written. -/
theorem boxes_stk {w1 w2 : World} {B pb : Nat} {sv : Value} {s : Stk} (h : StkAt w1 pb sv s) (hb : Below B w1 w2) (hp : pb < B) (hs : ∀ k, sv.ownBlock = some k → k < B) : StkAt w2 pb sv s := by
  have e := hb.block pb hp
  exact ⟨(World.cell?_of_block (a := ⟨pb, 0, none⟩) e).trans h.c0, (World.cell?_of_block (a := ⟨pb, 1, none⟩) e).trans h.c1, (World.frozen?_of_block (a := ⟨pb, 0, none⟩) e).trans h.f0, (World.frozen?_of_block (a := ⟨pb, 1, none⟩) e).trans h.f1, h.lay.kept fun k hk => hb.block k (hs k hk), h.ne⟩
theorem Turned.onBelow {w a b : World} {pb : Nat} {sv : Value} (h : Turned w a pb sv) (hb : Below w.heap.size a b) : Turned w b pb sv :=
  ⟨hb.os.trans h.os, hb.tape.trans h.tape, hb.output.trans h.output, Nat.le_trans h.size hb.size, fun k hk h1 h2 => (hb.block k hk).trans (h.block k hk h1 h2)⟩
theorem StkAt.set1 {w : World} {pb b o : Nat} {sv v : Value} {s : Stk} (h : StkAt w pb sv s) (hb : b ≠ pb) (hs : sv.ownBlock ≠ some b) : StkAt (w.setCell ⟨b, o, none⟩ v) pb sv s :=
  ⟨(set_other (addr_ne hb)).trans h.c0, (set_other (addr_ne hb)).trans h.c1, set_frz.trans h.f0, set_frz.trans h.f1, h.lay.setBox hs, h.ne⟩
theorem StkAt.set5 {w : World} {pb b : Nat} {sv v0 v1 v2 v3 v4 : Value} {s : Stk} (h : StkAt w pb sv s) (hb : b ≠ pb) (hs : sv.ownBlock ≠ some b) : StkAt (((((w.setCell ⟨b, 0, none⟩ v0).setCell ⟨b, 1, none⟩ v1).setCell ⟨b, 2, none⟩ v2).setCell ⟨b, 3, none⟩ v3).setCell ⟨b, 4, none⟩ v4) pb sv s :=
  ((((h.set1 hb hs).set1 hb hs).set1 hb hs).set1 hb hs).set1 hb hs
theorem charge1_any (y : Lay) (e : Ev) (eb : Nat) (W : World) (h : EvAt W eb e) :
    Calls Tryz.prog 206 (#[.agg #[.int .i64 y.id, .int .i64 y.qty, .int .i64 y.val]] ++ #[.pointer (some ⟨eb, 0, none⟩)]) W fun r w' => r = .returned (.bool (decide (y.id = e.ofI))) ∧ Below W.heap.size W w' := by
  have c5 := fun o : Obj => (h.below ((Below.refl W.heap.size W).alloc (Nat.le_refl _) o)).c5
  have hB : ∀ o : Obj, Below W.heap.size W (W.alloc o) := fun o => (Below.refl _ _).alloc (Nat.le_refl _) o
  have HB : Hid _ := hB
  clear hB
  by_cases hd : y.id = e.ofI
  · have hd2 : decide (y.id = e.ofI) = true := by simpa using hd
    go_enter Tryz.func206, Tryz.ntmps206
    go_wp2
    go_ret
    exact ⟨by rw [hd2]; simp [hd], HB.out _⟩
  · have hd2 : decide (y.id = e.ofI) = false := by simpa using hd
    go_enter Tryz.func206, Tryz.ntmps206
    go_wp2
    go_ret
    exact ⟨by rw [hd2]; simp [hd], HB.out _⟩
set_option maxHeartbeats 2000000 in
theorem charge_does {pb : Nat} {sv : Value} {s : Stk} {w : World} (h : StkAt w pb sv s) (hok : ∀ y ∈ s.ys, LayOK y) (hv : sumV s.ys ≤ 3000000000000000000) (hl : s.ys.length ≤ 1000000) (e : Ev) (hk : e.kind = 2) (hp : 0 ≤ e.price ∧ e.price ≤ 100000000000) :
    Calls Tryz.prog 149 #[.pointer (some ⟨pb, 0, none⟩), evV e] w fun r w' => r = .returned (.agg (linC (doE s e).2).toArray) ∧ ∃ sv', StkAt w' pb sv' (doE s e).1 ∧ Turned w w' pb sv ∧ Fresh w sv sv' := by
  have HDO : Hid (doE s e = if hasId e.ofI s.ys then (⟨chg e.ofI e.price s.ys, s.price⟩, ⟨e.id, e.price, 0, 0, false⟩) else (s, ⟨e.id, 0, 0, e.price, false⟩)) := by
    show _ = _
    unfold doE; rw [if_neg (by omega), if_pos hk]
  have HS : Hid (StkAt w pb sv s) := h
  have HOK : Hid (∀ y ∈ s.ys, LayOK y) := hok
  have HV : Hid (sumV s.ys ≤ 3000000000000000000) := hv
  clear h hok hv
  obtain ⟨id, item, kind, qty, price, ofI, day⟩ := e
  unfold evV
  simp only at HDO hk hp ⊢
  clear hk
  obtain ⟨W0, hW0⟩ : ∃ W, W = (w.alloc (.cells #[.int .i64 id, .string item, .int .i64 kind, .int .i64 qty, .int .i64 price, .int .i64 ofI, .int .i64 day] 44)).alloc (.cells #[.int .i64 0, .int .i64 0, .int .i64 0, .int .i64 0, .bool false] 114) := ⟨_, rfl⟩
  have hB0 : Below w.heap.size w W0 := by rw [hW0]; exact ((Below.refl _ _).alloc (Nat.le_refl _) _).alloc (by simp) _
  have H0 := HS.out.below hB0
  have hE : EvAt W0 w.heap.size ⟨id, item, kind, qty, price, ofI, day⟩ := by rw [hW0]; constructor <;> simp
  have hR : ∀ j, j < 5 → W0.cell? ⟨w.heap.size + 1, j, none⟩ = some (#[Value.int .i64 0, .int .i64 0, .int .i64 0, .int .i64 0, .bool false][j]!) ∧ W0.frozen? ⟨w.heap.size + 1, j, none⟩ = false := by
    intro j hj
    rw [hW0]
    have : j = 0 ∨ j = 1 ∨ j = 2 ∨ j = 3 ∨ j = 4 := by omega
    rcases this with rfl | rfl | rfl | rfl | rfl <;> simp
  have hsz0 : W0.heap.size = w.heap.size + 2 := by rw [hW0]; simp
  have hix := idx_lay s.ys sv W0 H0.lay hl 206 #[.pointer (some ⟨w.heap.size, 0, none⟩)] (fun y => decide (y.id = ofI)) (enters_of Tryz.func206 (by kernel_rfl) rfl) (fun y W hb => charge1_any y ⟨id, item, kind, qty, price, ofI, day⟩ w.heap.size W (hE.below hb))
  have b0 := H0.c0
  rw [hW0] at b0
  have HW0 : Hid (W0 = _) := hW0
  have HR : Hid _ := hR
  have HE : Hid (EvAt W0 w.heap.size ⟨id, item, kind, qty, price, ofI, day⟩) := hE
  have HH0 : Hid (StkAt W0 pb sv s) := H0
  clear hW0 hR hE H0
  go_enter Tryz.func149, Tryz.ntmps149
  go_wp2_with fail
  rw [← HW0.out]
  refine hix.mono ?_
  rintro r0 w1 ⟨r, rfl, hfd, hb1⟩
  have HFD : Hid (Found (fun y : Lay => decide (y.id = ofI)) s.ys r) := hfd
  have H1 := HH0.out.below hb1
  have E1 := HE.out.below hb1
  have e0 := E1.c0
  have e4 := E1.c4
  have r0 := ((hb1.cell (p := ⟨w.heap.size + 1, 0, none⟩) (by simp only; omega)).trans (HR.out 0 (by omega)).1)
  have r1 := ((hb1.cell (p := ⟨w.heap.size + 1, 1, none⟩) (by simp only; omega)).trans (HR.out 1 (by omega)).1)
  have r2 := ((hb1.cell (p := ⟨w.heap.size + 1, 2, none⟩) (by simp only; omega)).trans (HR.out 2 (by omega)).1)
  have r3 := ((hb1.cell (p := ⟨w.heap.size + 1, 3, none⟩) (by simp only; omega)).trans (HR.out 3 (by omega)).1)
  have r4 := ((hb1.cell (p := ⟨w.heap.size + 1, 4, none⟩) (by simp only; omega)).trans (HR.out 4 (by omega)).1)
  have z0 := ((hb1.frozen (p := ⟨w.heap.size + 1, 0, none⟩) (by simp only; omega)).trans (HR.out 0 (by omega)).2)
  have z1 := ((hb1.frozen (p := ⟨w.heap.size + 1, 1, none⟩) (by simp only; omega)).trans (HR.out 1 (by omega)).2)
  have z2 := ((hb1.frozen (p := ⟨w.heap.size + 1, 2, none⟩) (by simp only; omega)).trans (HR.out 2 (by omega)).2)
  have z3 := ((hb1.frozen (p := ⟨w.heap.size + 1, 3, none⟩) (by simp only; omega)).trans (HR.out 3 (by omega)).2)
  have z4 := ((hb1.frozen (p := ⟨w.heap.size + 1, 4, none⟩) (by simp only; omega)).trans (HR.out 4 (by omega)).2)
  simp at r0 r1 r2 r3 r4 e0 e4
  have hB1 : Below w.heap.size w w1 := hB0.trans (hb1.mono hB0.size)
  have HH1 : Hid (StkAt w1 pb sv s) := H1
  clear hix hfd hb1 E1 b0 H1
  rcases HFD.out with ⟨rfl, hno⟩ | ⟨k, hk, rfl, hp1, hn1⟩
  · have hid := chg_none hno
    have HD : Hid (doE s ⟨id, item, kind, qty, price, ofI, day⟩ = (s, ⟨id, 0, 0, price, false⟩)) := by
      show _ = _
      rw [HDO.out, hid]; rfl
    clear hno hid
    go_wp2
    refine bodyPost_ret (v := .agg #[.int .i64 id, .int .i64 0, .int .i64 0, .int .i64 price, .bool false]) (by simp [results, Tryz.results149, go_sem, *]) rfl ⟨?_, sv, ?_, ?_, Fresh.refl _ _⟩
    · rw [HD.out]; rfl
    · rw [HD.out]; exact boxes_stk HH1.out (box5 _ w.heap.size _ _ _ _ _ _ (by omega)) HS.out.lt (fun k hk => HS.out.lay.lt hk)
    · exact Turned.of_below (hB1.trans (box5 _ _ _ _ _ _ _ _ (by omega)))
  · obtain ⟨hid, hch⟩ := chg_at (o := ofI) (p := price) s.ys k hk hp1 hn1
    have HD : Hid (doE s ⟨id, item, kind, qty, price, ofI, day⟩ = (⟨chg ofI price s.ys, s.price⟩, ⟨id, price, 0, 0, false⟩)) := by
      show _ = _
      rw [HDO.out, hid]; rfl
    have HCH : Hid (chg ofI price s.ys = s.ys.set k ⟨s.ys[k].id, s.ys[k].qty, s.ys[k].val + price⟩) := hch
    have hms := mem_sum HOK.out (List.getElem_mem hk)
    have hoy := HOK.out s.ys[k] (List.getElem_mem hk)
    unfold LayOK at hoy
    have hvb := HV.out
    rcases HH1.out.lay.form with ⟨e1, e2⟩ | ⟨g, o, cap, e1, hg, hc1, hc2⟩
    · rw [e2] at hk; exact absurd hk (Nat.not_lt_zero _)
    · subst e1
      have k0 := HH1.out.c0
      have kc := HH1.out.lay.cell k 2 hk (by omega)
      have L2 := HH1.out.lay.set k 2 hk (by omega) (.int .i64 (s.ys[k].val + price)) ⟨s.ys[k].id, s.ys[k].qty, s.ys[k].val + price⟩ rfl
      rw [← hch] at L2
      have HL2 : Hid (LayAt _ _ _) := L2
      simp only [layC, List.getElem?_cons_zero, List.getElem?_cons_succ] at kc
      obtain ⟨kc, kf⟩ := kc
      have hgp : g ≠ pb := fun e => HH1.out.ne (by simp [Value.ownBlock, e])
      have hgb : g < w.heap.size := HS.out.lay.lt rfl
      have hgb1 : ¬ g = w.heap.size + 1 := by omega
      have hgb0 : ¬ g = w.heap.size := by omega
      have hpv : s.ys[k].val + price ≤ 4000000000000000000 := by omega
      have hk2 : (k : Int) < (s.ys.length : Int) := by omega
      have hk3 : k < s.ys.length := hk
      clear hid hch hp1 hn1 L2
      generalize hyv : s.ys[k].val = yv at kc hpv HL2 HCH hms hoy
      clear hyv
      have mixed : Tryz.prog.follows .mixedOrders = true := by kernel_rfl
      go_wp2_with fail
      go_big_region_o
      all_goals go_wp2
      obtain ⟨W2, hW2⟩ : ∃ W, W = w1.setCell ⟨g, o + k * 3 + 2, none⟩ (.int .i64 (yv + price)) := ⟨_, rfl⟩
      have S2 : StkAt W2 pb (.slice (some ⟨g, o, none⟩) s.ys.length cap) ⟨chg ofI price s.ys, s.price⟩ := by
        rw [hW2]
        exact ⟨(set_other (addr_ne hgp)).trans HH1.out.c0, (set_other (addr_ne hgp)).trans HH1.out.c1, set_frz.trans HH1.out.f0, set_frz.trans HH1.out.f1, HL2.out, HH1.out.ne⟩
      have T2 : Turned w W2 pb (.slice (some ⟨g, o, none⟩) s.ys.length cap) := by
        rw [hW2]
        exact (Turned.of_below hB1).trans (turned_row _ g _ pb _ _ rfl) (Fresh.refl _ _)
      have hB5 := (box5 W2 w.heap.size (w.heap.size + 1) (.int .i64 id) (.int .i64 price) (.int .i64 0) (.int .i64 0) (.bool false) (by omega)).trans ((below_drew _).mono (by have := T2.size; simp [World.setCell]; omega))
      refine bodyPost_ret (v := .agg #[.int .i64 id, .int .i64 price, .int .i64 0, .int .i64 0, .bool false]) (by simp [results, Tryz.results149, go_sem, *]) rfl ⟨?_, .slice (some ⟨g, o, none⟩) s.ys.length cap, ?_, ?_, Fresh.refl _ _⟩
      · rw [HD.out]; rfl
      · rw [HD.out, ← hW2]
        exact boxes_stk S2 hB5 HS.out.lt (fun k hk => HS.out.lay.lt hk)
      · rw [← hW2]
        exact T2.onBelow hB5
end Go.Proofs.YtcfgacdcgljbaaaGreatDoor
