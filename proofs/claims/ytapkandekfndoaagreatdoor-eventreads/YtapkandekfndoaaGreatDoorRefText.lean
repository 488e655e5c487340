/- The walk of tallymanref.EventText. -/
import Derived.Test.YtapkandekfndoaaGreatDoorRefEvent
import Derived.Test.YtapkandekfndoaaGreatDoorEventPrint
import Derived.Test.YtapkandekfndoaaGreatDoorRefAmount
import Derived.Test.YtapkandekfndoaaGreatDoorRefDate
namespace Go.Proofs.YtapkandekfndoaaGreatDoor
open Go.RowKit
theorem amt_eb (n : Int) : (⟨(byt (amt n)).toArray⟩ : ByteArray) = eb (byt (amt n)) := rfl
theorem amtE (n : Int) (w : World) (hg : Glob w) (h0 : -9223372036854775808 ≤ n) (h1 : n ≤ 9223372036854775807) :
    Calls Tryz.prog 13 #[.int .i64 n] w fun e w' => e = .returned (.string (eb (byt (amt n)))) ∧ Below w.heap.size w w' := amount_any n w hg h0 h1
theorem eb_amt_size (n : Int) (h0 : 0 ≤ n) (h1 : n ≤ 1000000000000) : (eb (byt (amt n))).size ≤ 15 := by
  have e : (eb (byt (amt n))).size = (byt (amt n)).length := by rw [← dba_len]; rfl
  rw [e]; exact amt_length n (by omega) h1
theorem tx_in (item : ByteArray) (id qty price ofI day : Int) : strOfNums (DT day) ++ ⟨#[32, 105, 110, 32]⟩ ++ item ++ ⟨#[32]⟩ ++ eb (Lib.itoa qty) ++ ⟨#[32, 97, 116, 32]⟩ ++ eb (byt (amt price)) = eb (ET ⟨id, item, 1, qty, price, ofI, day⟩) := by
  apply dba_ext
  have e : ET ⟨id, item, 1, qty, price, ofI, day⟩ = bts (DT day) ++ 32 :: ([105, 110] ++ 32 :: (item.data.toList ++ 32 :: (Lib.itoa qty ++ 32 :: ([97, 116] ++ 32 :: byt (amt price))))) := rfl
  rw [e, eb_list]
  simp [DT_data, eb_list]
theorem tx_ch (item : ByteArray) (id qty price ofI day : Int) : strOfNums (DT day) ++ ⟨#[32, 99, 104, 97, 114, 103, 101, 32]⟩ ++ item ++ ⟨#[32]⟩ ++ eb (byt (amt price)) ++ ⟨#[32, 102, 111, 114, 32]⟩ ++ eb (Lib.itoa ofI) = eb (ET ⟨id, item, 2, qty, price, ofI, day⟩) := by
  apply dba_ext
  have e : ET ⟨id, item, 2, qty, price, ofI, day⟩ = bts (DT day) ++ 32 :: ([99, 104, 97, 114, 103, 101] ++ 32 :: (item.data.toList ++ 32 :: (byt (amt price) ++ 32 :: ([102, 111, 114] ++ 32 :: Lib.itoa ofI)))) := rfl
  rw [e, eb_list]
  simp [DT_data, eb_list]
theorem tx_ou (item : ByteArray) (id qty price ofI day : Int) : strOfNums (DT day) ++ ⟨#[32, 111, 117, 116, 32]⟩ ++ item ++ ⟨#[32]⟩ ++ eb (Lib.itoa qty) = eb (ET ⟨id, item, 3, qty, price, ofI, day⟩) := by
  apply dba_ext
  have e : ET ⟨id, item, 3, qty, price, ofI, day⟩ = bts (DT day) ++ 32 :: ([111, 117, 116] ++ 32 :: (item.data.toList ++ 32 :: Lib.itoa qty)) := rfl
  rw [e, eb_list]
  simp [DT_data, eb_list]
theorem tx_co (item : ByteArray) (id qty price ofI day : Int) : strOfNums (DT day) ++ ⟨#[32, 99, 111, 117, 110, 116, 32]⟩ ++ item ++ ⟨#[32]⟩ ++ eb (Lib.itoa qty) = eb (ET ⟨id, item, 4, qty, price, ofI, day⟩) := by
  apply dba_ext
  have e : ET ⟨id, item, 4, qty, price, ofI, day⟩ = bts (DT day) ++ 32 :: ([99, 111, 117, 110, 116] ++ 32 :: (item.data.toList ++ 32 :: Lib.itoa qty)) := rfl
  rw [e, eb_list]
  simp [DT_data, eb_list]
set_option maxHeartbeats 4000000 in
theorem rtext_bad (e : Ev) (w : World) (hw : EvW e) (h : ¬ Rt e) :
    Calls Tryz.prog 34 #[evV e] w fun x w' => x = .returned (.tuple #[.string ⟨#[]⟩, .int .i64 1]) ∧ Below w.heap.size w w' := by
  have HR := fun v : World => hidN (rright_any e v hw)
  have HN := hidN h
  clear h hw
  obtain ⟨id, item, kind, qty, price, ofI, day⟩ := e
  have hb0 : Below w.heap.size w (w.alloc (.cells #[.int .i64 id, .string item, .int .i64 kind, .int .i64 qty, .int .i64 price, .int .i64 ofI, .int .i64 day] 52)) := (Below.refl _ _).alloc (Nat.le_refl _) _
  unfold evV at *
  simp only at *
  go_enter Tryz.func34, Tryz.ntmps34
  go_wp2_with fail
  refine (HR _).out.mono ?_
  rintro x W1 ⟨⟨b, rfl, hb⟩, hb1⟩
  clear HR
  have HB := hidN hb
  clear hb
  rcases b with _ | _
  · go_wp2
    go_ret2
    exact ⟨rfl, hb0.trans (hb1.mono hb0.size)⟩
  · exact absurd (HB.out.1 rfl) HN.out
set_option maxHeartbeats 8000000 in
theorem rtext_in (id : Int) (item : ByteArray) (qty price day : Int) (w : World) (hg : Glob w) (hw : EvW ⟨id, item, 1, qty, price, 0, day⟩) (h : Rt ⟨id, item, 1, qty, price, 0, day⟩) :
    Calls Tryz.prog 34 #[evV ⟨id, item, 1, qty, price, 0, day⟩] w fun x w' => x = .returned (.tuple #[.string (eb (ET ⟨id, item, 1, qty, price, 0, day⟩)), .int .i64 0]) ∧ Below w.heap.size w w' := by
  have HR := fun v : World => hidN (rright_any ⟨id, item, 1, qty, price, 0, day⟩ v hw)
  have HN := hidN h
  have HG := hidN hg
  have z0 := DT_size day
  have z2 := name_size h.1
  have hd := h.2.1
  have hk : (1 ≤ qty ∧ qty ≤ 100000) ∧ (0 ≤ price ∧ price ≤ 1000000) := by
    have hk := h.2.2
    unfold rtK at hk
    simp only at hk
    omega
  have z1 := itoa_size qty (by omega) (by omega)
  have z3 := eb_amt_size price (by omega) (by omega)
  have HI := hidN (fun (v : World) (hv : Glob v) => itoaN qty v hv.num (by omega) (by omega))
  have HS := hidN (tx_in item id qty price 0 day)
  obtain ⟨dt, hdt⟩ : ∃ t, t = strOfNums (DT day) := ⟨_, rfl⟩
  have HD := hidN (fun (v : World) (hv : Glob v) => rdate_ok day v hv hd.1 hd.2)
  rw [← hdt] at z0 HS HD
  obtain ⟨ET0, hET⟩ : ∃ t, t = eb (ET ⟨id, item, 1, qty, price, 0, day⟩) := ⟨_, rfl⟩
  rw [← hET] at HS ⊢
  clear hw h hg hd hdt hET
  have hb0 : Below w.heap.size w (w.alloc (.cells #[.int .i64 id, .string item, .int .i64 1, .int .i64 qty, .int .i64 price, .int .i64 0, .int .i64 day] 52)) := (Below.refl _ _).alloc (Nat.le_refl _) _
  have hE0 : EvAt (w.alloc (.cells #[.int .i64 id, .string item, .int .i64 1, .int .i64 qty, .int .i64 price, .int .i64 0, .int .i64 day] 52)) w.heap.size ⟨id, item, 1, qty, price, 0, day⟩ := by
    constructor <;> simp
  unfold evV at *
  simp only at *
  have hU := up_ne
  go_enter Tryz.func34, Tryz.ntmps34
  go_wp2_with fail
  refine (HR _).out.mono ?_
  rintro x W1 ⟨⟨b, rfl, hb⟩, hb1⟩
  obtain rfl : b = true := hb.2 HN.out
  clear HR HN hb
  have hB1 := hb0.trans (hb1.mono hb0.size)
  have hE1 := hE0.below hb1
  obtain ⟨c0, c1, c2, c3, c4, c5, c6⟩ := hE1
  simp only at c0 c1 c2 c3 c4 c5 c6
  clear hb0 hb1
  go_wp2_with fail
  refine (HD.out _ (HG.out.below hB1)).mono ?_
  rintro x W2 ⟨rfl, hb2⟩
  have hE2 : EvAt W2 w.heap.size ⟨id, item, 1, qty, price, 0, day⟩ := EvAt.below ⟨c0, c1, c2, c3, c4, c5, c6⟩ hb2
  have hB2 := hB1.trans (hb2.mono hB1.size)
  clear c0 c1 c2 c3 c4 c5 c6 hB1 hb2 HD hE0
  obtain ⟨c0, c1, c2, c3, c4, c5, c6⟩ := hE2
  simp only at c0 c1 c2 c3 c4 c5 c6
  go_wp2_with fail
  refine (HI.out _ (HG.out.below hB2)).mono ?_
  rintro x W3 ⟨rfl, hb3⟩
  have hE3 : EvAt W3 w.heap.size ⟨id, item, 1, qty, price, 0, day⟩ := EvAt.below ⟨c0, c1, c2, c3, c4, c5, c6⟩ hb3
  have hB3 := hB2.trans (hb3.mono hB2.size)
  clear c0 c1 c2 c3 c4 c5 c6 hB2 hb3 HI
  have hE3' := hE3
  obtain ⟨c0, c1, c2, c3, c4, c5, c6⟩ := hE3
  simp only at c0 c1 c2 c3 c4 c5 c6
  go_wp2_with fail
  refine wp_region_mix [(true, 0), (true, 1), (true, 2), (true, 3), (true, 4), (true, 5), (true, 6), (true, 7), (true, 8), (true, 9), (true, 10), (false, 11), (true, 12), (true, 13), (true, 14)] (by kernel_rfl) (by kernel_rfl) ?_
  obtain ⟨W4, hW⟩ : ∃ W, W = W3.drew := ⟨_, rfl⟩
  rw [← hW]
  have hb4 : Below W3.heap.size W3 W4 := by rw [hW]; exact below_drew _
  clear hW c0 c1 c2 c3 c4 c5 c6
  have hB4 := hB3.trans (hb4.mono hB3.size)
  have hE4 := hE3'.below hb4
  have f1 := fun n : Up W4 => (hE4.up n).c1
  have f4 := fun n : Up W4 => (hE4.up n).c4
  have f5 := fun n : Up W4 => (hE4.up n).c5
  clear hE3' hB3 hb4
  repeat (refine mix_q rfl ?_; go_big_quiet_step (fail); refine wpQuiet_nil ?_)
  refine mix_n rfl ?_
  go_wp2_with fail
  refine (amtE price _ (HG.out.below hB4) (by omega) (by omega)).mono ?_
  rintro x W5 ⟨rfl, hb5⟩
  go_wp2_with fail
  refine ⟨rfl, hb5, ?_⟩
  repeat (refine mix_q rfl ?_; go_big_quiet_step (fail); refine wpQuiet_nil ?_)
  refine mix_nil ?_
  go_wp2
  go_ret2
  exact ⟨congrArg (fun s => Ending.returned (.tuple #[.string s, .int .i64 0])) HS.out, hB4.trans (hb5.mono hB4.size)⟩
set_option maxHeartbeats 8000000 in
theorem rtext_ch (id : Int) (item : ByteArray) (price ofI day : Int) (w : World) (hg : Glob w) (hw : EvW ⟨id, item, 2, 0, price, ofI, day⟩) (h : Rt ⟨id, item, 2, 0, price, ofI, day⟩) :
    Calls Tryz.prog 34 #[evV ⟨id, item, 2, 0, price, ofI, day⟩] w fun x w' => x = .returned (.tuple #[.string (eb (ET ⟨id, item, 2, 0, price, ofI, day⟩)), .int .i64 0]) ∧ Below w.heap.size w w' := by
  have HR := fun v : World => hidN (rright_any ⟨id, item, 2, 0, price, ofI, day⟩ v hw)
  have HN := hidN h
  have HG := hidN hg
  have z0 := DT_size day
  have z2 := name_size h.1
  have hd := h.2.1
  have hk : (1 ≤ price ∧ price ≤ 100000000000) ∧ (1 ≤ ofI ∧ ofI ≤ 9223372036854775807) := by
    have hk := h.2.2
    unfold rtK at hk
    simp only at hk
    omega
  have z3 := eb_amt_size price (by omega) (by omega)
  have z4 := itoa_size ofI (by omega) (by omega)
  have HI := hidN (fun (v : World) (hv : Glob v) => itoaN 0 v hv.num (by omega) (by omega))
  have HS := hidN (tx_ch item id 0 price ofI day)
  obtain ⟨dt, hdt⟩ : ∃ t, t = strOfNums (DT day) := ⟨_, rfl⟩
  have HD := hidN (fun (v : World) (hv : Glob v) => rdate_ok day v hv hd.1 hd.2)
  rw [← hdt] at z0 HS HD
  obtain ⟨ET0, hET⟩ : ∃ t, t = eb (ET ⟨id, item, 2, 0, price, ofI, day⟩) := ⟨_, rfl⟩
  rw [← hET] at HS ⊢
  clear hw h hg hd hdt hET
  have hb0 : Below w.heap.size w (w.alloc (.cells #[.int .i64 id, .string item, .int .i64 2, .int .i64 0, .int .i64 price, .int .i64 ofI, .int .i64 day] 52)) := (Below.refl _ _).alloc (Nat.le_refl _) _
  have hE0 : EvAt (w.alloc (.cells #[.int .i64 id, .string item, .int .i64 2, .int .i64 0, .int .i64 price, .int .i64 ofI, .int .i64 day] 52)) w.heap.size ⟨id, item, 2, 0, price, ofI, day⟩ := by
    constructor <;> simp
  unfold evV at *
  simp only at *
  have hU := up_ne
  go_enter Tryz.func34, Tryz.ntmps34
  go_wp2_with fail
  refine (HR _).out.mono ?_
  rintro x W1 ⟨⟨b, rfl, hb⟩, hb1⟩
  obtain rfl : b = true := hb.2 HN.out
  clear HR HN hb
  have hB1 := hb0.trans (hb1.mono hb0.size)
  have hE1 := hE0.below hb1
  obtain ⟨c0, c1, c2, c3, c4, c5, c6⟩ := hE1
  simp only at c0 c1 c2 c3 c4 c5 c6
  clear hb0 hb1
  go_wp2_with fail
  refine (HD.out _ (HG.out.below hB1)).mono ?_
  rintro x W2 ⟨rfl, hb2⟩
  have hE2 : EvAt W2 w.heap.size ⟨id, item, 2, 0, price, ofI, day⟩ := EvAt.below ⟨c0, c1, c2, c3, c4, c5, c6⟩ hb2
  have hB2 := hB1.trans (hb2.mono hB1.size)
  clear c0 c1 c2 c3 c4 c5 c6 hB1 hb2 HD hE0
  obtain ⟨c0, c1, c2, c3, c4, c5, c6⟩ := hE2
  simp only at c0 c1 c2 c3 c4 c5 c6
  go_wp2_with fail
  refine (HI.out _ (HG.out.below hB2)).mono ?_
  rintro x W3 ⟨rfl, hb3⟩
  have hE3 : EvAt W3 w.heap.size ⟨id, item, 2, 0, price, ofI, day⟩ := EvAt.below ⟨c0, c1, c2, c3, c4, c5, c6⟩ hb3
  have hB3 := hB2.trans (hb3.mono hB2.size)
  clear c0 c1 c2 c3 c4 c5 c6 hB2 hb3 HI
  have hE3' := hE3
  obtain ⟨c0, c1, c2, c3, c4, c5, c6⟩ := hE3
  simp only at c0 c1 c2 c3 c4 c5 c6
  go_wp2_with fail
  refine wp_region_mix [(true, 0), (true, 1), (true, 2), (true, 3), (true, 4), (true, 5), (true, 6), (true, 7), (true, 11), (true, 12), (false, 8), (true, 9), (true, 10), (false, 13), (true, 14), (true, 15), (true, 16)] (by kernel_rfl) (by kernel_rfl) ?_
  obtain ⟨W4, hW⟩ : ∃ W, W = W3.drew := ⟨_, rfl⟩
  rw [← hW]
  have hb4 : Below W3.heap.size W3 W4 := by rw [hW]; exact below_drew _
  clear hW c0 c1 c2 c3 c4 c5 c6
  have hB4 := hB3.trans (hb4.mono hB3.size)
  have hE4 := hE3'.below hb4
  have f1 := fun n : Up W4 => (hE4.up n).c1
  have f4 := fun n : Up W4 => (hE4.up n).c4
  have f5 := fun n : Up W4 => (hE4.up n).c5
  clear hE3' hB3 hb4
  repeat (refine mix_q rfl ?_; go_big_quiet_step (fail); refine wpQuiet_nil ?_)
  refine mix_n rfl ?_
  go_wp2_with fail
  refine (amtE price _ (HG.out.below hB4) (by omega) (by omega)).mono ?_
  rintro x W5 ⟨rfl, hb5⟩
  go_wp2_with fail
  refine ⟨rfl, hb5, ?_⟩
  repeat (refine mix_q rfl ?_; go_big_quiet_step (fail); refine wpQuiet_nil ?_)
  have hB5 := hB4.trans (hb5.mono hB4.size)
  refine mix_n rfl ?_
  go_wp2_with fail
  refine (itoaN ofI _ (HG.out.below hB5).num (by omega) (by omega)).mono ?_
  rintro x W6 ⟨rfl, hb6⟩
  go_wp2_with fail
  refine ⟨rfl, hb6, ?_⟩
  repeat (refine mix_q rfl ?_; go_big_quiet_step (fail); refine wpQuiet_nil ?_)
  refine mix_nil ?_
  go_wp2
  go_ret2
  exact ⟨congrArg (fun s => Ending.returned (.tuple #[.string s, .int .i64 0])) HS.out, hB5.trans (hb6.mono hB5.size)⟩
set_option maxHeartbeats 8000000 in
theorem rtext_ou (id : Int) (item : ByteArray) (qty day : Int) (w : World) (hg : Glob w) (hw : EvW ⟨id, item, 3, qty, 0, 0, day⟩) (h : Rt ⟨id, item, 3, qty, 0, 0, day⟩) :
    Calls Tryz.prog 34 #[evV ⟨id, item, 3, qty, 0, 0, day⟩] w fun x w' => x = .returned (.tuple #[.string (eb (ET ⟨id, item, 3, qty, 0, 0, day⟩)), .int .i64 0]) ∧ Below w.heap.size w w' := by
  have HR := fun v : World => hidN (rright_any ⟨id, item, 3, qty, 0, 0, day⟩ v hw)
  have HN := hidN h
  have HG := hidN hg
  have z0 := DT_size day
  have z2 := name_size h.1
  have hd := h.2.1
  have hk : 1 ≤ qty ∧ qty ≤ 100000 := by
    have hk := h.2.2
    unfold rtK at hk
    simp only at hk
    omega
  have z1 := itoa_size qty (by omega) (by omega)
  have HI := hidN (fun (v : World) (hv : Glob v) => itoaN qty v hv.num (by omega) (by omega))
  have HS := hidN (tx_ou item id qty 0 0 day)
  obtain ⟨dt, hdt⟩ : ∃ t, t = strOfNums (DT day) := ⟨_, rfl⟩
  have HD := hidN (fun (v : World) (hv : Glob v) => rdate_ok day v hv hd.1 hd.2)
  rw [← hdt] at z0 HS HD
  obtain ⟨ET0, hET⟩ : ∃ t, t = eb (ET ⟨id, item, 3, qty, 0, 0, day⟩) := ⟨_, rfl⟩
  rw [← hET] at HS ⊢
  clear hw h hg hd hdt hET
  have hb0 : Below w.heap.size w (w.alloc (.cells #[.int .i64 id, .string item, .int .i64 3, .int .i64 qty, .int .i64 0, .int .i64 0, .int .i64 day] 52)) := (Below.refl _ _).alloc (Nat.le_refl _) _
  have hE0 : EvAt (w.alloc (.cells #[.int .i64 id, .string item, .int .i64 3, .int .i64 qty, .int .i64 0, .int .i64 0, .int .i64 day] 52)) w.heap.size ⟨id, item, 3, qty, 0, 0, day⟩ := by
    constructor <;> simp
  unfold evV at *
  simp only at *
  have hU := up_ne
  go_enter Tryz.func34, Tryz.ntmps34
  go_wp2_with fail
  refine (HR _).out.mono ?_
  rintro x W1 ⟨⟨b, rfl, hb⟩, hb1⟩
  obtain rfl : b = true := hb.2 HN.out
  clear HR HN hb
  have hB1 := hb0.trans (hb1.mono hb0.size)
  have hE1 := hE0.below hb1
  obtain ⟨c0, c1, c2, c3, c4, c5, c6⟩ := hE1
  simp only at c0 c1 c2 c3 c4 c5 c6
  clear hb0 hb1
  go_wp2_with fail
  refine (HD.out _ (HG.out.below hB1)).mono ?_
  rintro x W2 ⟨rfl, hb2⟩
  have hE2 : EvAt W2 w.heap.size ⟨id, item, 3, qty, 0, 0, day⟩ := EvAt.below ⟨c0, c1, c2, c3, c4, c5, c6⟩ hb2
  have hB2 := hB1.trans (hb2.mono hB1.size)
  clear c0 c1 c2 c3 c4 c5 c6 hB1 hb2 HD hE0
  obtain ⟨c0, c1, c2, c3, c4, c5, c6⟩ := hE2
  simp only at c0 c1 c2 c3 c4 c5 c6
  go_wp2_with fail
  refine (HI.out _ (HG.out.below hB2)).mono ?_
  rintro x W3 ⟨rfl, hb3⟩
  have hE3 : EvAt W3 w.heap.size ⟨id, item, 3, qty, 0, 0, day⟩ := EvAt.below ⟨c0, c1, c2, c3, c4, c5, c6⟩ hb3
  have hB3 := hB2.trans (hb3.mono hB2.size)
  clear c0 c1 c2 c3 c4 c5 c6 hB2 hb3 HI
  have hE3' := hE3
  obtain ⟨c0, c1, c2, c3, c4, c5, c6⟩ := hE3
  simp only at c0 c1 c2 c3 c4 c5 c6
  clear hE3'
  go_wp2
  go_ret2
  exact ⟨congrArg (fun s => Ending.returned (.tuple #[.string s, .int .i64 0])) HS.out, hB3⟩
set_option maxHeartbeats 8000000 in
theorem rtext_co (id : Int) (item : ByteArray) (qty day : Int) (w : World) (hg : Glob w) (hw : EvW ⟨id, item, 4, qty, 0, 0, day⟩) (h : Rt ⟨id, item, 4, qty, 0, 0, day⟩) :
    Calls Tryz.prog 34 #[evV ⟨id, item, 4, qty, 0, 0, day⟩] w fun x w' => x = .returned (.tuple #[.string (eb (ET ⟨id, item, 4, qty, 0, 0, day⟩)), .int .i64 0]) ∧ Below w.heap.size w w' := by
  have HR := fun v : World => hidN (rright_any ⟨id, item, 4, qty, 0, 0, day⟩ v hw)
  have HN := hidN h
  have HG := hidN hg
  have z0 := DT_size day
  have z2 := name_size h.1
  have hd := h.2.1
  have hk : 0 ≤ qty ∧ qty ≤ 100000 := by
    have hk := h.2.2
    unfold rtK at hk
    simp only at hk
    omega
  have z1 := itoa_size qty (by omega) (by omega)
  have HI := hidN (fun (v : World) (hv : Glob v) => itoaN qty v hv.num (by omega) (by omega))
  have HS := hidN (tx_co item id qty 0 0 day)
  obtain ⟨dt, hdt⟩ : ∃ t, t = strOfNums (DT day) := ⟨_, rfl⟩
  have HD := hidN (fun (v : World) (hv : Glob v) => rdate_ok day v hv hd.1 hd.2)
  rw [← hdt] at z0 HS HD
  obtain ⟨ET0, hET⟩ : ∃ t, t = eb (ET ⟨id, item, 4, qty, 0, 0, day⟩) := ⟨_, rfl⟩
  rw [← hET] at HS ⊢
  clear hw h hg hd hdt hET
  have hb0 : Below w.heap.size w (w.alloc (.cells #[.int .i64 id, .string item, .int .i64 4, .int .i64 qty, .int .i64 0, .int .i64 0, .int .i64 day] 52)) := (Below.refl _ _).alloc (Nat.le_refl _) _
  have hE0 : EvAt (w.alloc (.cells #[.int .i64 id, .string item, .int .i64 4, .int .i64 qty, .int .i64 0, .int .i64 0, .int .i64 day] 52)) w.heap.size ⟨id, item, 4, qty, 0, 0, day⟩ := by
    constructor <;> simp
  unfold evV at *
  simp only at *
  have hU := up_ne
  go_enter Tryz.func34, Tryz.ntmps34
  go_wp2_with fail
  refine (HR _).out.mono ?_
  rintro x W1 ⟨⟨b, rfl, hb⟩, hb1⟩
  obtain rfl : b = true := hb.2 HN.out
  clear HR HN hb
  have hB1 := hb0.trans (hb1.mono hb0.size)
  have hE1 := hE0.below hb1
  obtain ⟨c0, c1, c2, c3, c4, c5, c6⟩ := hE1
  simp only at c0 c1 c2 c3 c4 c5 c6
  clear hb0 hb1
  go_wp2_with fail
  refine (HD.out _ (HG.out.below hB1)).mono ?_
  rintro x W2 ⟨rfl, hb2⟩
  have hE2 : EvAt W2 w.heap.size ⟨id, item, 4, qty, 0, 0, day⟩ := EvAt.below ⟨c0, c1, c2, c3, c4, c5, c6⟩ hb2
  have hB2 := hB1.trans (hb2.mono hB1.size)
  clear c0 c1 c2 c3 c4 c5 c6 hB1 hb2 HD hE0
  obtain ⟨c0, c1, c2, c3, c4, c5, c6⟩ := hE2
  simp only at c0 c1 c2 c3 c4 c5 c6
  go_wp2_with fail
  refine (HI.out _ (HG.out.below hB2)).mono ?_
  rintro x W3 ⟨rfl, hb3⟩
  have hE3 : EvAt W3 w.heap.size ⟨id, item, 4, qty, 0, 0, day⟩ := EvAt.below ⟨c0, c1, c2, c3, c4, c5, c6⟩ hb3
  have hB3 := hB2.trans (hb3.mono hB2.size)
  clear c0 c1 c2 c3 c4 c5 c6 hB2 hb3 HI
  have hE3' := hE3
  obtain ⟨c0, c1, c2, c3, c4, c5, c6⟩ := hE3
  simp only at c0 c1 c2 c3 c4 c5 c6
  clear hE3'
  go_wp2
  go_ret2
  exact ⟨congrArg (fun s => Ending.returned (.tuple #[.string s, .int .i64 0])) HS.out, hB3⟩
theorem rtext_ok (e : Ev) (w : World) (hg : Glob w) (hw : EvW e) (h : Rt e) :
    Calls Tryz.prog 34 #[evV e] w fun x w' => x = .returned (.tuple #[.string (eb (ET e)), .int .i64 0]) ∧ Below w.heap.size w w' := by
  obtain ⟨id, item, kind, qty, price, ofI, day⟩ := e
  have hk := h.2.2
  unfold rtK at hk
  simp only at hk
  rcases hk with ⟨rfl, _, _, rfl⟩ | ⟨rfl, rfl, _, _⟩ | ⟨rfl, _, rfl, rfl⟩ | ⟨rfl, _, rfl, rfl⟩
  · exact rtext_in id item qty price day w hg hw h
  · exact rtext_ch id item price ofI day w hg hw h
  · exact rtext_ou id item qty day w hg hw h
  · exact rtext_co id item qty day w hg hw h
end Go.Proofs.YtapkandekfndoaaGreatDoor
