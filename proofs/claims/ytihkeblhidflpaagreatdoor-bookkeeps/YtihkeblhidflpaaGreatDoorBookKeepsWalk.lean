/- The walk of tallymanlaw.BookKeeps: it returns true. -/
import Derived.Test.YtihkeblhidflpaaGreatDoorLawSmall
namespace Go.Proofs.YtihkeblhidflpaaGreatDoor
open Go.RowKit
/-- Numbers lie behind an address. -/
def IntsAt (w : World) (ao : Option Addr) (zs : List Int) : Prop := zs = [] ∨ ∃ b off, ao = some ⟨b, off, none⟩ ∧ ∀ i, i < zs.length → w.cell? ⟨b, off + i, none⟩ = some (.int .i64 (zs.getD i 0))
def bkZ : Bk := ⟨[], 0, 0⟩
theorem two_new (w : World) : Two ((w.alloc (.cells #[.slice none 0 0, .int .i64 0, .int .i64 0] 27)).alloc (.cells #[.slice none 0 0, .int .i64 0, .int .i64 0] 31)) w.heap.size w.heap.size (.slice none 0 0) bkZ (w.heap.size + 1) (.slice none 0 0) bkZ := by
  refine ⟨BookAt.below (w := w.alloc (.cells #[.slice none 0 0, .int .i64 0, .int .i64 0] 27)) ⟨by simp, by simp [bkZ], by simp [bkZ], by simp, by simp, by simp, World.ownsRow_nil _ _ _ _, by simp [Value.ownBlock], Nat.le_refl _⟩ ((Below.refl _ _).alloc (Nat.le_refl _) _), ?_, by omega, by simp [Value.ownBlock], by simp [Value.ownBlock], by simp [Value.ownBlock]⟩
  generalize hW : w.alloc (.cells #[.slice none 0 0, .int .i64 0, .int .i64 0] 27) = W
  have e : w.heap.size + 1 = W.heap.size := by rw [← hW]; simp
  rw [e]
  exact ⟨by simp, by simp [bkZ], by simp [bkZ], by simp, by simp, by simp, World.ownsRow_nil _ _ _ _, by simp [Value.ownBlock], by omega⟩
/-- Behind each turn numbers are given once. -/
def Own (b : Bk) : Prop := ∀ t : Int, t ≤ b.n → ((asOf b t).map (·.id)).Nodup
theorem own_zero : Own bkZ := fun t _ => by simp [asOf, bkZ]
theorem own_step {b b' : Bk} {x : Ac} (h : Inv b) (hi : Inv b') (ho : Own b) (hs : StepA b x b') : Own b' := fun t ht => by
  have hn := step_n hs
  by_cases h1 : t ≤ b.n
  · rw [asOf_step h hs t h1]; exact ho t h1
  · have e : t = b'.n := by omega
    rw [e, asOf_now hi, List.map_map]
    exact hi.one
theorem asOf_late {b : Bk} (h : Inv b) {t : Int} (ht : b.n ≤ t) : asOf b t = asOf b b.n := by
  unfold asOf
  congr 1
  apply List.filter_congr
  intro v hv
  have h1 := (h.fr v hv).2
  have h2 := h.to v hv
  unfold isAt
  by_cases h3 : v.to = 0
  · simp [h1, h3]; omega
  · have h4 : ¬ b.n < v.to := by omega
    have h5 : ¬ t < v.to := by omega
    simp [h3, h4, h5]
theorem asOf_same {b : Bk} (h : Inv b) (t : Int) : asOf b (tR b t) = asOf b (tOf b t) := by
  unfold tR tOf
  by_cases h0 : t < 0
  · rw [if_neg (by omega), if_pos h0]
  · rw [if_neg h0]
    by_cases h1 : t ≤ b.n
    · rw [if_pos (by omega)]
    · rw [if_neg (by omega)]; exact (asOf_late h (by omega)).symm
theorem as_one {b : Bk} (h : Inv b) (ho : Own b) (t : Int) {l : List Ev} (hp : l.Perm (asOf b (tR b t))) (hs : l.Pairwise fun x y => ltOf cmpE y x = false) : l = srt (asOf b (tOf b t)) := by
  rw [asOf_same h] at hp
  have hn : ((asOf b (tOf b t)).map (·.id)).Nodup := by
    rw [← asOf_same h]
    refine ho _ ?_
    unfold tR
    split
    · omega
    · exact Int.le_refl _
  exact sorted_one (hp.trans (srt_perm _).symm) hs (srt_sorted _) ((hp.map _).symm.nodup hn)
/-- Both answer the same list. -/
theorem as_both {B p1 p2 : Nat} {v1 v2 : Value} {b : Bk} (hi : Inv b) (ho : Own b) (t : Int) : ∃ l : List Ev, l.length ≤ 1000000 ∧
    (∀ W, Two W B p1 v1 b p2 v2 b → Calls Tryz.prog 10 #[.pointer (some ⟨p1, 0, none⟩), .int .i64 t] W fun r w' => ∃ v, r = .returned v ∧ w'.ownsRow W.heap.size 35 7 v l.length (l.flatMap evC) ∧ Below W.heap.size W w') ∧
    (∀ W, Two W B p1 v1 b p2 v2 b → Calls Tryz.prog 11 #[.pointer (some ⟨p2, 0, none⟩), .int .i64 t] W fun r w' => ∃ v, r = .returned v ∧ w'.ownsRow W.heap.size 35 7 v l.length (l.flatMap evC) ∧ Below W.heap.size W w') := by
  have hl : b.vs.length ≤ 1000000 := by have := hi.full; omega
  refine ⟨srt (asOf b (tOf b t)), ?_, fun W hW => as_any hW.book hl t, fun W hW => ?_⟩
  · rw [srt_len]; unfold asOf; rw [List.length_map]; exact Nat.le_trans (List.length_filter_le _ _) hl
  · refine (ras_any hW.ref hl t).mono ?_
    rintro r w' ⟨v, l, rfl, x1, x2, x3, x4⟩
    rw [as_one hi ho t x2 x3] at x1
    exact ⟨v, rfl, x1, x4⟩
set_option maxRecDepth 20000 in
set_option maxHeartbeats 16000000 in
theorem keeps_walk (l : List Ac) (ao : Option Addr) (cap : Nat) (zs : List Int) (az : Option Addr) (cz : Nat) (w : World) (hg : ErrType w) (h : ActsAt w ao l) (hm : l.length ≤ maxLen) (hz : IntsAt w az zs) (hzm : zs.length ≤ maxLen) :
    Calls Tryz.prog 3 #[.slice ao l.length cap, .slice az zs.length cz] w fun e w' => e = .returned (.bool true) ∧ Below w.heap.size w w' := by
  have hsm := short_any l ao cap w h hm
  have HG : Hid (∀ W, Below w.heap.size w W → ErrType W) := fun W hb => hg.below hb
  have HZ : Hid (IntsAt w az zs) := hz
  unfold maxLen at hzm
  clear hg hm hz
  go_enter Tryz.func3, Tryz.ntmps3
  go_wp2_with fail
  refine hsm.mono ?_
  rintro e w0 ⟨⟨bb, rfl, hbb⟩, hw0⟩
  subst w0
  clear hsm
  cases bb with
  | false =>
    go_wp2
    go_ret
    exact ⟨rfl, Below.refl _ _⟩
  | true =>
    have h140 : l.length ≤ 140 := hbb rfl
    clear hbb
    by_cases hz10 : 10 < zs.length
    · have hzz : (10 : Int) < (zs.length : Int) := by omega
      go_wp2
      go_ret
      exact ⟨rfl, Below.refl _ _⟩
    · have hzz : ¬ (10 : Int) < (zs.length : Int) := by omega
      obtain ⟨W, hW⟩ : ∃ W, W = (w.alloc (.cells #[.slice none 0 0, .int .i64 0, .int .i64 0] 27)).alloc (.cells #[.slice none 0 0, .int .i64 0, .int .i64 0] 31) := ⟨_, rfl⟩
      have HT0 : Hid (Two W w.heap.size w.heap.size (.slice none 0 0) bkZ (w.heap.size + 1) (.slice none 0 0) bkZ) := by rw [hW]; exact two_new w
      have HB0 : Hid (Below w.heap.size w W) := by rw [hW]; exact ((Below.refl _ _).alloc (Nat.le_refl _) _).alloc (by simp) _
      go_wp2
      rw [← hW]
      clear hW
      go_loopw [7] (fun i wr => ∃ (k : Nat) (b : Bk) (v1 v2 : Value), k ≤ l.length ∧ i = .int .i64 k ∧ Hid (Two wr w.heap.size w.heap.size v1 b (w.heap.size + 1) v2 b) ∧ Hid (Inv b ∧ Own b ∧ b.n ≤ k) ∧ Hid (Below w.heap.size w wr)) (fun i _ => l.length - (intOf i).toNat)
      case atStart => exact ⟨0, bkZ, .slice none 0 0, .slice none 0 0, Nat.zero_le _, rfl, HT0, ⟨inv_zero, own_zero, Int.le_refl _⟩, HB0⟩
      case round =>
        clear HT0 HB0
        obtain ⟨k, b, v1, v2, hk, rfl, HT, HI, HB⟩ := hrel
        by_cases hlt : k < l.length
        · obtain ⟨ab, off, rfl, hab, hc⟩ := h.2 (by omega)
          have hew : EvW l[k].e := h.1 _ (List.getElem_mem hlt)
          have hbk : BkOk b := HI.out.1.ok (by have := HI.out.2.2; omega)
          obtain ⟨x, hx⟩ : ∃ x, x = l[k] := ⟨_, rfl⟩
          obtain ⟨W4, hW4⟩ : ∃ W, W = wr.drew := ⟨_, rfl⟩
          have hd4 : Below wr.heap.size wr W4 := by rw [hW4]; exact below_drew _
          have HB4 : Hid (Below w.heap.size w W4) := HB.out.trans (hd4.mono HB.out.size)
          have HT4 := HT.out.below hd4
          have hcx : ∀ (W : World), Below w.heap.size w W → ∀ j, j < 9 → W.cell? ⟨ab, off + k * 9 + j, none⟩ = (acC x)[j]? := fun W hb j hj => by
            rw [hb.cell (p := ⟨ab, off + k * 9 + j, none⟩) hab, hx]; exact hc k hlt j hj
          rw [← hx] at hew
          have HCX : Hid _ := hcx
          have hac := acts_any HT4 hbk HB4.out.size (fun W hb => HG.out W (HB4.out.trans hb)) x hew
          have HST : Hid (∀ b', b' = b ∨ StepA b x b' → Inv b' ∧ Own b' ∧ b'.n ≤ ((k + 1 : Nat) : Int)) := fun b' hs => by
            rcases hs with rfl | hs
            · exact ⟨HI.out.1, HI.out.2.1, by have := HI.out.2.2; omega⟩
            · have hi' := inv_step HI.out.1 hew (by have := HI.out.2.2; omega) hs
              exact ⟨hi', own_step HI.out.1 hi' HI.out.2.1 hs, by have := step_n hs; have := HI.out.2.2; omega⟩
          clear hc hx hcx hd4 HT hbk
          obtain ⟨what, id, ⟨id0, item, kind, qty, price, ofI, day⟩⟩ := x
          have hcw := HCX.out W4 HB4.out
          have q0 := hcw 0 (by omega)
          have q1 := hcw 1 (by omega)
          have q2 := hcw 2 (by omega)
          have q3 := hcw 3 (by omega)
          have q4 := hcw 4 (by omega)
          have q5 := hcw 5 (by omega)
          have q6 := hcw 6 (by omega)
          have q7 := hcw 7 (by omega)
          have q8 := hcw 8 (by omega)
          simp only [acC, List.getElem?_cons_zero, List.getElem?_cons_succ, Nat.add_zero] at q0 q1 q2 q3 q4 q5 q6 q7 q8
          unfold acV at hac
          simp only at hac
          have hkz : (k : Int) < (l.length : Int) := by omega
          have hU := up_ne
          have hA := anyW_ne
          have g0 := fun n : Up W4 => n.cell q0
          have g1 := fun n : Up W4 => n.cell q1
          have g2 := fun n : Up W4 => n.cell q2
          have g3 := fun n : Up W4 => n.cell q3
          have g4 := fun n : Up W4 => n.cell q4
          have g5 := fun n : Up W4 => n.cell q5
          have g6 := fun n : Up W4 => n.cell q6
          have g7 := fun n : Up W4 => n.cell q7
          have g8 := fun n : Up W4 => n.cell q8
          clear hcw q0 q1 q2 q3 q4 q5 q6 q7 q8
          go_wp2_with fail
          refine wp_region_turn [(.pure, 0), (.pure, 1), (.pure, 2), (.pure, 3), (.read, 4), (.turn, 5), (.pure, 6), (.pure, 7), (.pure, 9), (.pure, 10), (.pure, 11), (.read, 12), (.make, 8), (.pure, 13), (.pure, 14)] (by kernel_rfl) (by kernel_rfl) ?_
          rw [← hW4]
          clear hW4
          repeat (first | refine turn_p rfl ?_ | refine turn_q rfl ?_); go_big_quiet_step (fail); refine wpQuiet_nil ?_
          clear g0 g1 g2 g3 g4 g5 g6 g7 g8
          refine turn_t rfl ?_
          go_wp2_with fail
          refine hac.mono ?_
          rintro e w2 ⟨rfl, u1, u2, b2, H2, hst, hb2⟩
          have HI2 := HST.out b2 hst
          have HB2 : Hid (Below w.heap.size w w2) := HB4.out.trans hb2
          have HII : Hid (Inv b2 ∧ Own b2 ∧ b2.n ≤ ((k + 1 : Nat) : Int)) := HI2
          have HTT : Hid (Two w2 w.heap.size w.heap.size u1 b2 (w.heap.size + 1) u2 b2) := H2
          have htn := turn_any H2.book
          have hcn := H2.ref.c1
          clear hac hst HST HI HB HB4 HT4 hb2 HI2 hew H2
          go_wp2_with fail
          refine ⟨rfl, ?_⟩
          have gn := fun n : Up w2 => n.cell hcn
          repeat (first | refine turn_p rfl ?_ | refine turn_q rfl ?_); go_big_quiet_step (fail); refine wpQuiet_nil ?_
          clear gn hcn
          refine turn_n rfl ?_
          go_wp2_with fail
          refine htn.mono ?_
          rintro e w3 ⟨rfl, hw3⟩
          subst w3
          clear htn
          go_wp2_with fail
          refine ⟨rfl, Below.refl _ _, ?_⟩
          repeat (first | refine turn_p rfl ?_ | refine turn_q rfl ?_); go_big_quiet_step (fail); refine wpQuiet_nil ?_
          refine turn_nil ?_
          go_wp2_with fail
          refine wp_region_mix [(true, 0), (true, 1), (true, 2), (true, 3), (true, 4), (true, 6), (true, 7), (true, 8), (true, 9), (true, 10), (true, 11), (false, 5), (false, 12), (true, 13), (true, 14)] (by kernel_rfl) (by kernel_rfl) ?_
          obtain ⟨W5, hW5⟩ : ∃ W, W = w2.drew := ⟨_, rfl⟩
          rw [← hW5]
          have hd5 : Below w2.heap.size w2 W5 := by rw [hW5]; exact below_drew _
          have HB5 : Hid (Below w.heap.size w W5) := HB2.out.trans (hd5.mono HB2.out.size)
          have HT5 : Hid (Two W5 w.heap.size w.heap.size u1 b2 (w.heap.size + 1) u2 b2) := HTT.out.below hd5
          have q1 := HCX.out W5 HB5.out 1 (by omega)
          simp only [acC, List.getElem?_cons_zero, List.getElem?_cons_succ] at q1
          have g1 := fun n : Up W5 => n.cell q1
          clear hW5 hd5 HTT HB2 q1
          repeat (refine mix_q rfl ?_; go_big_quiet_step (fail); refine wpQuiet_nil ?_)
          clear g1
          have hl2 : b2.vs.length ≤ 1000000 := by have := HII.out.1.full; omega
          have hh := hist_any HT5.out.book hl2 id
          refine mix_n rfl ?_
          go_wp2_with fail
          refine hh.mono ?_
          rintro e w6 ⟨vh, rfl, hoh, hb6⟩
          have HT6 : Hid (Two w6 w.heap.size w.heap.size u1 b2 (w.heap.size + 1) u2 b2) := HT5.out.below hb6
          have HB6 : Hid (Below w.heap.size w w6) := HB5.out.trans (hb6.mono HB5.out.size)
          have hv := rhist_any HT6.out.ref hl2 id
          obtain ⟨fs, hfs⟩ : ∃ fs, fs = b2.vs.filter (isH id) := ⟨_, rfl⟩
          rw [← hfs] at hoh hv
          have hfl : fs.length ≤ 1000000 := by rw [hfs]; exact Nat.le_trans (List.length_filter_le _ _) hl2
          have HOH : Hid (w6.ownsRow W5.heap.size 42 9 vh fs.length (fs.flatMap vrC)) := hoh
          clear hh hoh hfs HT5 HB5
          go_wp2_with fail
          refine ⟨rfl, hb6, ?_⟩
          refine mix_n rfl ?_
          go_wp2_with fail
          refine hv.mono ?_
          rintro e w7 ⟨vv, rfl, hov, hb7⟩
          have HT7 : Hid (Two w7 w.heap.size w.heap.size u1 b2 (w.heap.size + 1) u2 b2) := HT6.out.below hb7
          have HB7 : Hid (Below w.heap.size w w7) := HB6.out.trans (hb7.mono HB6.out.size)
          have HH7 : Hid (w7.ownsRow 0 42 9 vh fs.length (fs.flatMap vrC)) := own_below HOH.out hb7 (Nat.zero_le _)
          have HV7 : Hid (w7.ownsRow 0 44 9 vv fs.length (fs.flatMap vrC)) := own_below hov (Below.refl _ _) (Nat.zero_le _)
          clear hv hov HT6 HB6 HOH hl2
          go_wp2_with fail
          refine ⟨rfl, hb7, ?_⟩
          clear hb6 hb7
          repeat (refine mix_q rfl ?_; go_big_quiet_step (fail); refine wpQuiet_nil ?_)
          refine mix_nil ?_
          obtain ⟨a1, c1, rfl⟩ := own_len HH7.out
          obtain ⟨a2, c2, rfl⟩ := own_len HV7.out
          go_wp2
          go_loopw [10] (fun i wr => ∃ m : Nat, m ≤ fs.length ∧ i = .int .i64 m ∧ Hid (Below w7.heap.size w7 wr)) (fun i _ => fs.length - (intOf i).toNat)
          case atStart => exact ⟨0, Nat.zero_le _, rfl, Below.refl _ _⟩
          case round =>
            obtain ⟨m, hmf, rfl, HB8⟩ := hrel
            by_cases hlm : m < fs.length
            · obtain ⟨g1, d1, hs1, hg1⟩ : ∃ g cap, Value.slice a1 fs.length c1 = .slice (some ⟨g, 0, none⟩) fs.length cap ∧ g < w7.heap.size := by
                rcases own_form HH7.out with ⟨_, hn, _⟩ | ⟨g, cap, e, _, hg, _⟩
                · omega
                · exact ⟨g, cap, e, hg⟩
              obtain ⟨g2, d2, hs2, hg2⟩ : ∃ g cap, Value.slice a2 fs.length c2 = .slice (some ⟨g, 0, none⟩) fs.length cap ∧ g < w7.heap.size := by
                rcases own_form HV7.out with ⟨_, hn, _⟩ | ⟨g, cap, e, _, hg, _⟩
                · omega
                · exact ⟨g, cap, e, hg⟩
              cases hs1
              cases hs2
              obtain ⟨y, hy⟩ : ∃ y, y = fs[m] := ⟨_, rfl⟩
              have hp : ∀ j, j < 9 → wr.cell? ⟨g1, m * 9 + j, none⟩ = (vrC y)[j]? := fun j hj => by
                rw [HB8.out.cell (p := ⟨g1, m * 9 + j, none⟩) hg1, (own_cell vrC_len HH7.out m j hlm hj).1, hy]
              have hq : ∀ j, j < 9 → wr.cell? ⟨g2, m * 9 + j, none⟩ = (vrC y)[j]? := fun j hj => by
                rw [HB8.out.cell (p := ⟨g2, m * 9 + j, none⟩) hg2, (own_cell vrC_len HV7.out m j hlm hj).1, hy]
              clear hy
              obtain ⟨⟨id9, item9, kind9, qty9, price9, ofI9, day9⟩, fr9, tq9⟩ := y
              have p0 := hp 0 (by omega)
              have p1 := hp 1 (by omega)
              have p2 := hp 2 (by omega)
              have p3 := hp 3 (by omega)
              have p4 := hp 4 (by omega)
              have p5 := hp 5 (by omega)
              have p6 := hp 6 (by omega)
              have p7 := hp 7 (by omega)
              have p8 := hp 8 (by omega)
              have q0 := hq 0 (by omega)
              have q1 := hq 1 (by omega)
              have q2 := hq 2 (by omega)
              have q3 := hq 3 (by omega)
              have q4 := hq 4 (by omega)
              have q5 := hq 5 (by omega)
              have q6 := hq 6 (by omega)
              have q7 := hq 7 (by omega)
              have q8 := hq 8 (by omega)
              simp only [vrC, List.getElem?_cons_zero, List.getElem?_cons_succ, Nat.add_zero] at p0 p1 p2 p3 p4 p5 p6 p7 p8 q0 q1 q2 q3 q4 q5 q6 q7 q8
              clear hp hq
              have hmz : (m : Int) < (fs.length : Int) := by omega
              go_wp2
              go_quiet (fail)
              have HB9 : Hid (Below w7.heap.size w7 (wr.drewN nq)) := HB8.out.trans ⟨rfl, rfl, rfl, Nat.le_refl _, fun _ _ => rfl⟩
              clear p0 p1 p2 p3 p4 p5 p6 p7 p8 q0 q1 q2 q3 q4 q5 q6 q7 q8
              go_wp2
              go_roundw
              case rel => exact ⟨m + 1, by omega, by go_num, HB9⟩
              case measure => simp [intOf]; omega
            · have hmz : ¬ (m : Int) < (fs.length : Int) := by omega
              have HT9 : Hid (Two wr w.heap.size w.heap.size u1 b2 (w.heap.size + 1) u2 b2) := HT7.out.below HB8.out
              have HB9 : Hid (Below w.heap.size w wr) := HB7.out.trans (HB8.out.mono HB7.out.size)
              clear HT7 HB7 HH7 HV7 HB8
              go_wp2
              go_roundw
              case rel => exact ⟨k + 1, b2, u1, u2, by omega, by go_num, HT9, HII, HB9⟩
              case measure => simp [intOf]; omega
        · have hkz : ¬ (k : Int) < (l.length : Int) := by omega
          obtain ⟨W1, rfl⟩ : ∃ x, x = wr := ⟨_, rfl⟩
          go_wp2
          go_loopw [11] (fun i wr => ∃ m : Nat, m ≤ zs.length ∧ i = .int .i64 m ∧ Hid (Below W1.heap.size W1 wr)) (fun i _ => zs.length - (intOf i).toNat)
          case atStart => exact ⟨0, Nat.zero_le _, rfl, Below.refl _ _⟩
          case round =>
            obtain ⟨m, hmf, rfl, HB8⟩ := hrel
            have HT9 : Hid (Two wr w.heap.size w.heap.size v1 b (w.heap.size + 1) v2 b) := HT.out.below HB8.out
            have HB9 : Hid (Below w.heap.size w wr) := HB.out.trans (HB8.out.mono HB.out.size)
            by_cases hlm : m < zs.length
            · obtain ⟨zb, zo, rfl, hzc⟩ : ∃ b off, az = some ⟨b, off, none⟩ ∧ ∀ i, i < zs.length → w.cell? ⟨b, off + i, none⟩ = some (.int .i64 (zs.getD i 0)) := by
                rcases HZ.out with e | h
                · rw [e] at hlm; cases hlm
                · exact h
              have hmz : (m : Int) < (zs.length : Int) := by omega
              have hz1 := hzc m hlm
              generalize zs.getD m 0 = t at hz1
              obtain ⟨ls, hls, hf1, hf2⟩ := as_both (B := w.heap.size) (p1 := w.heap.size) (p2 := w.heap.size + 1) (v1 := v1) (v2 := v2) HI.out.1 HI.out.2.1 t
              have HF1 : Hid _ := hf1
              have HF2 : Hid _ := hf2
              clear hf1 hf2 hzc
              go_wp2_with fail
              refine wp_region_mix [(true, 0), (true, 1), (true, 2), (true, 3), (true, 5), (true, 6), (true, 7), (true, 8), (true, 9), (false, 4), (false, 10), (false, 11), (true, 12)] (by kernel_rfl) (by kernel_rfl) ?_
              obtain ⟨W5, hW5⟩ : ∃ W, W = wr.drew := ⟨_, rfl⟩
              rw [← hW5]
              have hd5 : Below wr.heap.size wr W5 := by rw [hW5]; exact below_drew _
              have HB5 : Hid (Below w.heap.size w W5) := HB9.out.trans (hd5.mono HB9.out.size)
              have HL5 : Hid (Below W1.heap.size W1 W5) := HB8.out.trans (hd5.mono HB8.out.size)
              have HT5 : Hid (Two W5 w.heap.size w.heap.size v1 b (w.heap.size + 1) v2 b) := HT9.out.below hd5
              have q1 : W5.cell? ⟨zb, zo + m, none⟩ = some (.int .i64 t) := (HB5.out.cell (p := ⟨zb, zo + m, none⟩) (World.block_lt_of_cell? _ _ hz1)).trans hz1
              have hU := up_ne
              have g1 := fun n : Up W5 => n.cell q1
              clear hW5 hd5 q1 hz1 HT9 HB9
              repeat (refine mix_q rfl ?_; go_big_quiet_step (fail); refine wpQuiet_nil ?_)
              clear g1
              have ha := HF1.out W5 HT5.out
              refine mix_n rfl ?_
              go_wp2_with fail
              refine ha.mono ?_
              rintro e w6 ⟨va, rfl, hoa, hb6⟩
              have HT6 : Hid (Two w6 w.heap.size w.heap.size v1 b (w.heap.size + 1) v2 b) := HT5.out.below hb6
              have HL6 : Hid (Below W1.heap.size W1 w6) := HL5.out.trans (hb6.mono HL5.out.size)
              have HOA : Hid (w6.ownsRow W5.heap.size 35 7 va ls.length (ls.flatMap evC)) := hoa
              have hr := HF2.out w6 HT6.out
              clear ha hoa
              go_wp2_with fail
              refine ⟨rfl, hb6, ?_⟩
              refine mix_n rfl ?_
              go_wp2_with fail
              refine hr.mono ?_
              rintro e w7 ⟨vr, rfl, hor, hb7⟩
              have HL7 : Hid (Below W1.heap.size W1 w7) := HL6.out.trans (hb7.mono HL6.out.size)
              have hsa := same_any (own_below HOA.out hb7 (Nat.zero_le _)) hor hls
              clear hr hor
              go_wp2_with fail
              refine ⟨rfl, hb7, ?_⟩
              refine mix_n rfl ?_
              go_wp2_with fail
              refine hsa.mono ?_
              rintro e w8 ⟨rfl, hb8⟩
              have HL8 : Hid (Below W1.heap.size W1 w8) := HL7.out.trans (hb8.mono HL7.out.size)
              clear hsa
              go_wp2_with fail
              refine ⟨rfl, hb8, ?_⟩
              repeat (refine mix_q rfl ?_; go_big_quiet_step (fail); refine wpQuiet_nil ?_)
              refine mix_nil ?_
              clear hb6 hb7 hb8
              go_wp2
              go_roundw
              case rel => exact ⟨m + 1, by omega, by go_num, HL8⟩
              case measure => simp [intOf]; omega
            · have hmz : ¬ (m : Int) < (zs.length : Int) := by omega
              obtain ⟨ls, hls, hf1, hf2⟩ := as_both (B := w.heap.size) (p1 := w.heap.size) (p2 := w.heap.size + 1) (v1 := v1) (v2 := v2) HI.out.1 HI.out.2.1 (-1)
              have HF2 : Hid _ := hf2
              have ha := hf1 wr HT9.out
              clear hf1 hf2
              go_wp2_with fail
              refine ha.mono ?_
              rintro e w6 ⟨va, rfl, hoa, hb6⟩
              have HT6 : Hid (Two w6 w.heap.size w.heap.size v1 b (w.heap.size + 1) v2 b) := HT9.out.below hb6
              have HL6 : Hid (Below w.heap.size w w6) := HB9.out.trans (hb6.mono HB9.out.size)
              have HOA : Hid (w6.ownsRow wr.heap.size 35 7 va ls.length (ls.flatMap evC)) := hoa
              have hr := HF2.out w6 HT6.out
              clear ha hoa
              go_wp2_with fail
              refine hr.mono ?_
              rintro e w7 ⟨vr, rfl, hor, hb7⟩
              have HL7 : Hid (Below w.heap.size w w7) := HL6.out.trans (hb7.mono HL6.out.size)
              have hsa := same_any (own_below HOA.out hb7 (Nat.zero_le _)) hor hls
              clear hr hor
              go_wp2_with fail
              refine hsa.mono ?_
              rintro e w8 ⟨rfl, hb8⟩
              have HL8 : Hid (Below w.heap.size w w8) := HL7.out.trans (hb8.mono HL7.out.size)
              clear hsa
              go_wp2
              go_ret
              exact ⟨rfl, HL8.out⟩
end Go.Proofs.YtihkeblhidflpaaGreatDoor
