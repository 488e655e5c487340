/- The walk of tallymanref.ParseDate: it reads just what day.Parse reads. -/
import Derived.Test.YtapkandekfndoaaGreatDoorRefDate
namespace Go.Proofs.YtapkandekfndoaaGreatDoor
open Go.RowKit
theorem three_of {α : Type} (l : List α) (h : l.length = 3) : ∃ a b c, l = [a, b, c] := by
  match l, h with
  | [a, b, c], _ => exact ⟨a, b, c, rfl⟩
/-- strings.Split at a text of three parts. -/
theorem split_3 (s x0 x1 x2 : ByteArray) (w : World) (hg : Glob w) (hs : s.size ≤ 300) (hc : Lib.countB s ⟨#[45]⟩ = 2) (hp : Lib.splitB ⟨#[45]⟩ 0 2 s = [x0, x1, x2]) :
    Calls Tryz.prog 55 #[.string s, .string ⟨#[45]⟩] w fun e w' => e = .returned (.slice (some ⟨w.heap.size, 0, none⟩) 3 3) ∧ w' = w.alloc (.cells #[.string x0, .string x1, .string x2] 9) := by
  obtain ⟨m, hm⟩ := hg.ml
  have h := Tryz.strings_Split s ⟨#[45]⟩ m w (by omega) hm (by decide)
  rw [hc, hp] at h
  exact h
theorem split_other (s : ByteArray) (w : World) (hg : Glob w) (hs : s.size ≤ 300) (hc : Lib.countB s ⟨#[45]⟩ ≠ 2) :
    Calls Tryz.prog 55 #[.string s, .string ⟨#[45]⟩] w fun e w' => ∃ c : Nat, e = .returned (.slice (some ⟨w.heap.size, 0, none⟩) c c) ∧ c ≠ 3 ∧ c ≤ 1000 ∧ Below w.heap.size w w' := by
  obtain ⟨m, hm⟩ := hg.ml
  refine (Tryz.strings_Split s ⟨#[45]⟩ m w (by omega) hm (by decide)).mono fun e w' ⟨he, hw⟩ => ?_
  have hle : Lib.countB s ⟨#[45]⟩ ≤ s.data.toList.length + 1 := Lib.count_le _ _
  rw [dba_len] at hle
  subst hw
  exact ⟨_, he, by omega, by omega, (Below.refl _ _).alloc (Nat.le_refl _) _⟩
theorem alloc3_cells (w w1 : World) (a b c : Value) (t : TypeId) (hb : Below (w.alloc (.cells #[a, b, c] t)).heap.size (w.alloc (.cells #[a, b, c] t)) w1) :
    w1.cell? ⟨w.heap.size, 0, none⟩ = some a ∧ w1.cell? ⟨w.heap.size, 1, none⟩ = some b ∧ w1.cell? ⟨w.heap.size, 2, none⟩ = some c := by
  refine ⟨?_, ?_, ?_⟩
  · rw [hb.cell (p := ⟨w.heap.size, 0, none⟩) (by simp)]; simp
  · rw [hb.cell (p := ⟨w.heap.size, 1, none⟩) (by simp)]; simp
  · rw [hb.cell (p := ⟨w.heap.size, 2, none⟩) (by simp)]; simp
/-- The three parts of a day's text. -/
theorem parts_of_DT (s : ByteArray) (n : Int) (h0 : 0 ≤ n) (h1 : n ≤ 99999) (h : bts (DT n) = s.data.toList) :
    ∃ x0 x1 x2 : ByteArray, Lib.countB s ⟨#[45]⟩ = 2 ∧ Lib.splitB ⟨#[45]⟩ 0 2 s = [x0, x1, x2] ∧ x0.size ≤ 300 ∧ x1.size ≤ 300 ∧ x2.size ≤ 300 ∧
      Lib.atoiAll x0.data.toList = .ok (ky (dK n)) ∧ Lib.atoiAll x1.data.toList = .ok (km (dK n)) ∧ Lib.atoiAll x2.data.toList = .ok (dD n) := by
  have hk := dK_le h0 h1
  have hyb : 1900 ≤ ky (dK n) ∧ ky (dK n) ≤ 2200 := ⟨ky_ge _, by unfold ky; omega⟩
  have hmb := km_bd (dK n)
  have hdb := dD_bd h0
  have e : s.data.toList = bts (tw (ky (dK n) / 100) ++ tw (ky (dK n) % 100)) ++ 45 :: (bts (tw (km (dK n))) ++ 45 :: bts (tw (dD n))) := by
    rw [← h]; exact DT_parts _ _ _
  have dy : Digs (bts (tw (ky (dK n) / 100) ++ tw (ky (dK n) % 100))) := by
    rw [bts_app]; exact digs_append (tw_digs _ (by omega) (by omega)) (tw_digs _ (by omega) (by omega))
  have dm := tw_digs (km (dK n)) (by omega) (by omega)
  have dd := tw_digs (dD n) (by omega) (by omega)
  obtain ⟨c2, p3⟩ := split_three 45 _ _ _ (digs_not dy 45 (by decide)) (digs_not dm 45 (by decide)) (digs_not dd 45 (by decide))
  rw [← e] at c2 p3
  have hc : Lib.countB s ⟨#[45]⟩ = 2 := c2
  have hlen : (Lib.splitB ⟨#[45]⟩ 0 2 s).length = 3 := Lib.splitB_all ⟨#[45]⟩ (by decide) 0 2 s hc
  obtain ⟨x0, x1, x2, hx⟩ := three_of _ hlen
  have hd := Lib.splitB_data ⟨#[45]⟩ 0 2 s
  rw [hx] at hd
  have hd2 : [x0.data.toList, x1.data.toList, x2.data.toList] = [bts (tw (ky (dK n) / 100) ++ tw (ky (dK n) % 100)), bts (tw (km (dK n))), bts (tw (dD n))] := hd.trans p3
  simp only [List.cons.injEq, and_true] at hd2
  obtain ⟨q0, q1, q2⟩ := hd2
  refine ⟨x0, x1, x2, hc, hx, ?_, ?_, ?_, ?_, ?_, ?_⟩
  · rw [← dba_len, q0]; show 4 ≤ 300; omega
  · rw [← dba_len, q1]; show 2 ≤ 300; omega
  · rw [← dba_len, q2]; show 2 ≤ 300; omega
  · rw [q0, atoi_digs _ dy (by simp [bts, tw]) (by rw [dval_tw2 _ (by omega) (by omega)]; omega), dval_tw2 _ (by omega) (by omega)]
  · rw [q1, atoi_digs _ dm (by simp [bts, tw]) (by rw [dval_tw _ (by omega) (by omega)]; omega), dval_tw _ (by omega) (by omega)]
  · rw [q2, atoi_digs _ dd (by simp [bts, tw]) (by rw [dval_tw _ (by omega) (by omega)]; omega), dval_tw _ (by omega) (by omega)]
theorem atoi_is (s : ByteArray) (v : Int) (w : World) (hg : Glob w) (hs : s.size ≤ 281474976710656) (h : Lib.atoiAll s.data.toList = .ok v) :
    Calls Tryz.prog 47 #[.string s] w fun e w' => e = .returned (.tuple #[.int .i64 v, .nilIface]) ∧ Below w.heap.size w w' := by
  refine (atoi_any s w hg hs).mono fun e w' ⟨hh, hb⟩ => ?_
  rcases hh with ⟨x, hx, he⟩ | ⟨x, tq, q, hno, _⟩
  · rw [h] at hx; cases hx; exact ⟨he, hb⟩
  · exact absurd h (hno v)
set_option maxHeartbeats 4000000 in
theorem rparse_ok (s : ByteArray) (n : Int) (w : World) (hg : Glob w) (h : dparsed s.data.toList = some n) :
    Calls Tryz.prog 26 #[.string s] w fun e w' => e = .returned (.tuple #[.int .i64 n, .int .i64 0]) ∧ Below w.heap.size w w' := by
  obtain ⟨p1, p2, p3, p4, p5⟩ := dparsed_some h
  have hz : s.size ≤ 300 := by rw [← dba_len, p1]; omega
  obtain ⟨x0, x1, x2, c2, hx, z0, z1, z2, t0, t1, t2⟩ := parts_of_DT s n p2 p3 p4
  have HC := hid c2
  have HX := hid hx
  have HT0 := hid t0
  have HT1 := hid t1
  have HT2 := hid t2
  have HG := hid hg
  have HO := hid (ofDay_is p2 p3)
  have hcmp : ((strOfNums (DT n)).toList == s.toList) = true := by
    rw [ByteArray.toList_eq, ByteArray.toList_eq]
    show ((strOfNums (dtx _ _ _)).data.toList == _) = true
    rw [dtx_data]
    exact beq_iff_eq.2 p4
  clear hg h p1 p4 p5 c2 hx t0 t1 t2
  go_enter Tryz.func26, Tryz.ntmps26
  go_wp2_with fail
  refine (split_3 s x0 x1 x2 _ HG.out hz HC.out HX.out).mono ?_
  rintro e w1 ⟨rfl, hw1⟩
  have b1 : Below w1.heap.size (w.alloc (.cells #[.string x0, .string x1, .string x2] 9)) w1 := by rw [hw1]; exact Below.refl _ _
  have d1 : Below w.heap.size w w1 := by rw [hw1]; exact (Below.refl _ _).alloc (Nat.le_refl _) _
  have hw1s : w1.heap.size = (w.alloc (.cells #[.string x0, .string x1, .string x2] 9)).heap.size := by rw [hw1]
  rw [hw1s] at b1
  clear HC HX hw1
  have HG1 := hid (HG.out.below d1)
  obtain ⟨k0, k1, k2⟩ := alloc3_cells _ _ _ _ _ _ b1
  go_wp2_with fail
  refine (atoi_is x0 (ky (dK n)) _ HG1.out (by omega) HT0.out).mono ?_
  rintro e w2 ⟨rfl, hb2⟩
  have b2 := b1.trans (hb2.mono b1.size)
  have d2 := d1.trans (hb2.mono d1.size)
  have HG2 := hid (HG.out.below d2)
  clear k0 k1 k2 b1 d1 hb2 HG1 HT0 hw1s
  obtain ⟨k0, k1, k2⟩ := alloc3_cells _ _ _ _ _ _ b2
  go_wp2_with fail
  refine (atoi_is x1 (km (dK n)) _ HG2.out (by omega) HT1.out).mono ?_
  rintro e w3 ⟨rfl, hb3⟩
  have b3 := b2.trans (hb3.mono b2.size)
  have d3 := d2.trans (hb3.mono d2.size)
  have HG3 := hid (HG.out.below d3)
  clear k0 k1 k2 b2 d2 hb3 HG2 HT1
  obtain ⟨k0, k1, k2⟩ := alloc3_cells _ _ _ _ _ _ b3
  go_wp2_with fail
  refine (atoi_is x2 (dD n) _ HG3.out (by omega) HT2.out).mono ?_
  rintro e w4 ⟨rfl, hb4⟩
  have d4 := d3.trans (hb4.mono d3.size)
  have HG4 := hid (HG.out.below d4)
  clear k0 k1 k2 b3 d3 hb4 HG3 HT2 HG
  go_wp2_with fail
  refine (rday_ok _ _ _ n _ HO.out).mono ?_
  rintro e w' ⟨rfl, hw⟩
  subst w'
  clear HO
  go_wp2_with fail
  refine (rdate_ok n _ HG4.out p2 p3).mono ?_
  rintro e w5 ⟨rfl, hb5⟩
  have d5 := d4.trans (hb5.mono d4.size)
  clear HG4 d4 hb5
  go_wp2
  go_ret2
  exact ⟨rfl, d5⟩
/-- An error, or none. -/
def ErrV (v : Value) : Prop := v = .nilIface ∨ ∃ (tq : TypeId) (q : Value), v = .iface tq q
theorem atoi_some (s : ByteArray) (w : World) (hg : Glob w) (hs : s.size ≤ 281474976710656) :
    Calls Tryz.prog 47 #[.string s] w fun e w' => ∃ (x : Int) (v : Value), e = .returned (.tuple #[.int .i64 x, v]) ∧ ErrV v ∧ Below w.heap.size w w' := by
  refine (atoi_any s w hg hs).mono fun e w' ⟨hh, hb⟩ => ?_
  rcases hh with ⟨x, _, he⟩ | ⟨x, tq, q, _, he⟩
  · exact ⟨x, _, he, .inl rfl, hb⟩
  · exact ⟨x, _, he, .inr ⟨tq, q, rfl⟩, hb⟩
theorem pieces_3 (s : ByteArray) (hs : s.size ≤ 300) (hc : Lib.countB s ⟨#[45]⟩ = 2) : ∃ x0 x1 x2 : ByteArray, Lib.splitB ⟨#[45]⟩ 0 2 s = [x0, x1, x2] ∧ x0.size ≤ 300 ∧ x1.size ≤ 300 ∧ x2.size ≤ 300 := by
  have hlen : (Lib.splitB ⟨#[45]⟩ 0 2 s).length = 3 := Lib.splitB_all ⟨#[45]⟩ (by decide) 0 2 s hc
  obtain ⟨x0, x1, x2, hx⟩ := three_of _ hlen
  have hd := Lib.splitB_data ⟨#[45]⟩ 0 2 s
  rw [hx] at hd
  have hl : ∀ x : ByteArray, x.data.toList ∈ Lib.splitK [45] 0 2 s.data.toList → x.size ≤ 300 := by
    intro x hm
    have := piece_le [45] 2 _ _ hm
    rw [dba_len, dba_len] at this; omega
  have hd2 : [x0.data.toList, x1.data.toList, x2.data.toList] = Lib.splitK [45] 0 2 s.data.toList := hd
  refine ⟨x0, x1, x2, hx, hl x0 ?_, hl x1 ?_, hl x2 ?_⟩
  · rw [← hd2]; simp
  · rw [← hd2]; simp
  · rw [← hd2]; simp
set_option maxHeartbeats 4000000 in
theorem rparse_bad (s : ByteArray) (w : World) (hg : Glob w) (hz : s.size ≤ 300) (h : dparsed s.data.toList = none) :
    Calls Tryz.prog 26 #[.string s] w fun e w' => e = .returned (.tuple #[.int .i64 0, .int .i64 3]) ∧ Below w.heap.size w w' := by
  have HG := hid hg
  have HN := hid (dparsed_none h)
  clear hg h
  by_cases hc : Lib.countB s ⟨#[45]⟩ = 2
  · obtain ⟨x0, x1, x2, hx, z0, z1, z2⟩ := pieces_3 s hz hc
    have HC := hid hc
    have HX := hid hx
    clear hc hx
    go_enter Tryz.func26, Tryz.ntmps26
    go_wp2_with fail
    refine (split_3 s x0 x1 x2 _ HG.out hz HC.out HX.out).mono ?_
    rintro e w1 ⟨rfl, hw1⟩
    have b1 : Below w1.heap.size (w.alloc (.cells #[.string x0, .string x1, .string x2] 9)) w1 := by rw [hw1]; exact Below.refl _ _
    have d1 : Below w.heap.size w w1 := by rw [hw1]; exact (Below.refl _ _).alloc (Nat.le_refl _) _
    have hw1s : w1.heap.size = (w.alloc (.cells #[.string x0, .string x1, .string x2] 9)).heap.size := by rw [hw1]
    rw [hw1s] at b1
    clear HC HX hw1
    have HG1 := hid (HG.out.below d1)
    obtain ⟨k0, k1, k2⟩ := alloc3_cells _ _ _ _ _ _ b1
    go_wp2_with fail
    refine (atoi_some x0 _ HG1.out (by omega)).mono ?_
    rintro e w2 ⟨y, e0, rfl, he0, hb2⟩
    have HE0 := hid he0
    have b2 := b1.trans (hb2.mono b1.size)
    have d2 := d1.trans (hb2.mono d1.size)
    have HG2 := hid (HG.out.below d2)
    clear k0 k1 k2 b1 d1 hb2 HG1 hw1s he0
    obtain ⟨k0, k1, k2⟩ := alloc3_cells _ _ _ _ _ _ b2
    go_wp2_with fail
    refine (atoi_some x1 _ HG2.out (by omega)).mono ?_
    rintro e w3 ⟨m, e1, rfl, he1, hb3⟩
    have HE1 := hid he1
    have b3 := b2.trans (hb3.mono b2.size)
    have d3 := d2.trans (hb3.mono d2.size)
    have HG3 := hid (HG.out.below d3)
    clear k0 k1 k2 b2 d2 hb3 HG2 he1
    obtain ⟨k0, k1, k2⟩ := alloc3_cells _ _ _ _ _ _ b3
    go_wp2_with fail
    refine (atoi_some x2 _ HG3.out (by omega)).mono ?_
    rintro e w4 ⟨d, e2, rfl, he2, hb4⟩
    have HE2 := hid he2
    have d4 := d3.trans (hb4.mono d3.size)
    have HG4 := hid (HG.out.below d4)
    clear k0 k1 k2 b3 d3 hb4 HG3 HG he2
    rcases ho : ofDay y m d with _ | n
    · have HO := hid ho
      clear ho HN
      go_wp2_with fail
      refine (rday_bad y m d _ HO.out).mono ?_
      rintro e w' ⟨rfl, hw⟩
      subst w'
      clear HO
      rcases HE0.out with rfl | ⟨t0, q0, rfl⟩
      · rcases HE1.out with rfl | ⟨t1, q1, rfl⟩
        · rcases HE2.out with rfl | ⟨t2, q2, rfl⟩
          · clear HE0 HE1 HE2
            go_wp2
            go_ret2
            exact ⟨rfl, d4⟩
          · clear HE0 HE1 HE2
            go_wp2
            go_ret2
            exact ⟨rfl, d4⟩
        · clear HE0 HE1 HE2
          go_wp2
          go_ret2
          exact ⟨rfl, d4⟩
      · clear HE0 HE1 HE2
        go_wp2
        go_ret2
        exact ⟨rfl, d4⟩
    · have HO := hid ho
      have hn := ofDay_some ho
      have h2 := hn.2.2.2.2.2.2.2.1
      have h3 := hn.2.2.2.2.2.2.2.2.1
      clear ho hn
      have hcmp : ((strOfNums (DT n)).toList == s.toList) = false := by
        rw [ByteArray.toList_eq, ByteArray.toList_eq]
        show ((strOfNums (dtx _ _ _)).data.toList == _) = false
        rw [dtx_data]
        exact beq_eq_false_iff_ne.2 (HN.out n h2 h3)
      clear HN
      go_wp2_with fail
      refine (rday_ok y m d n _ HO.out).mono ?_
      rintro e w' ⟨rfl, hw⟩
      subst w'
      clear HO
      rcases HE0.out with rfl | ⟨t0, q0, rfl⟩
      · rcases HE1.out with rfl | ⟨t1, q1, rfl⟩
        · rcases HE2.out with rfl | ⟨t2, q2, rfl⟩
          · clear HE0 HE1 HE2
            go_wp2_with fail
            refine (rdate_ok n _ HG4.out h2 h3).mono ?_
            rintro e w5 ⟨rfl, hb5⟩
            have d5 := d4.trans (hb5.mono d4.size)
            clear HG4 d4 hb5
            go_wp2
            go_ret2
            exact ⟨rfl, d5⟩
          · clear HE0 HE1 HE2
            go_wp2
            go_ret2
            exact ⟨rfl, d4⟩
        · clear HE0 HE1 HE2
          go_wp2
          go_ret2
          exact ⟨rfl, d4⟩
      · clear HE0 HE1 HE2
        go_wp2
        go_ret2
        exact ⟨rfl, d4⟩
  · clear HN
    go_enter Tryz.func26, Tryz.ntmps26
    go_wp2_with fail
    refine (split_other s _ HG.out hz hc).mono ?_
    rintro e w1 ⟨c, rfl, hc3, hc4, hb1⟩
    clear HG hc
    go_wp2
    go_ret2
    exact ⟨rfl, hb1⟩
end Go.Proofs.YtapkandekfndoaaGreatDoor
