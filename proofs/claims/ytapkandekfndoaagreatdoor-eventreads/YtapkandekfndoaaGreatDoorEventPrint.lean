/- The walks of event.numbers and event.Print. -/
import Derived.Test.YtapkandekfndoaaGreatDoorEventRight
namespace Go.Proofs.YtapkandekfndoaaGreatDoor
open Go.RowKit
theorem itoa_size (n : Int) (h : 0 ≤ n) (h' : n ≤ 9223372036854775807) : (eb (Lib.itoa n)).size ≤ 20 := by
  have e : (eb (Lib.itoa n)).size = (Lib.itoa n).length := by rw [← dba_len]; rfl
  rw [e, itoa_pos n h, Lib.decDigits_length]
  exact (wdN_le 20 n.toNat (by omega) (by omega)).2
theorem amt_size (n : Int) (h0 : 0 ≤ n) (h1 : n ≤ 1000000000000) : (strOfNums (amt n)).size ≤ 15 := by
  have := amt_length n (by omega) h1
  rw [byt_length] at this
  rw [strOfNums_size]; exact this
theorem amt_data (n : Int) : (strOfNums (amt n)).data.toList = byt (amt n) := by rw [strOfNums_data]; rfl
theorem eb_list (l : List UInt8) : (eb l).data.toList = l := rfl
theorem nums_in (q p o : Int) : eb (Lib.itoa q) ++ ⟨#[32, 97, 116, 32]⟩ ++ strOfNums (amt p) = eb (nums 1 q p o) := by
  apply dba_ext
  have e : nums 1 q p o = Lib.itoa q ++ 32 :: ([97, 116] ++ 32 :: byt (amt p)) := rfl
  rw [e, eb_list]
  simp [amt_data, eb_list]
theorem nums_ch (q p o : Int) : strOfNums (amt p) ++ ⟨#[32, 102, 111, 114, 32]⟩ ++ eb (Lib.itoa o) = eb (nums 2 q p o) := by
  apply dba_ext
  have e : nums 2 q p o = byt (amt p) ++ 32 :: ([102, 111, 114] ++ 32 :: Lib.itoa o) := rfl
  rw [e, eb_list]
  simp [amt_data, eb_list]
set_option maxHeartbeats 4000000 in
theorem numbers_any (e : Ev) (w : World) (hg : GlobE w) (h : rtK e.kind e.qty e.price e.ofI) :
    Calls Tryz.prog 62 #[evV e] w fun x w' => x = .returned (.string (eb (nums e.kind e.qty e.price e.ofI))) ∧ Below w.heap.size w w' := by
  obtain ⟨id, item, kind, qty, price, ofI, day⟩ := e
  simp only at h ⊢
  unfold evV
  simp only
  have hU := up_ne
  have HG := hidN hg
  clear hg
  rcases h with ⟨rfl, ⟨q0, q1⟩, ⟨p0, p1⟩, rfl⟩ | ⟨rfl, rfl, ⟨p0, p1⟩, ⟨o0, o1⟩⟩ | ⟨rfl, ⟨q0, q1⟩, rfl, rfl⟩ | ⟨rfl, ⟨q0, q1⟩, rfl, rfl⟩
  · have z1 := itoa_size qty (by omega) (by omega)
    have z2 := amt_size price (by omega) (by omega)
    have HS := hidN (nums_in qty price 0)
    go_enter Tryz.func62, Tryz.ntmps62
    go_wp2_with fail
    refine wp_region_mix [(true, 0), (true, 1), (true, 4), (true, 5), (false, 2), (true, 3), (false, 6), (true, 7), (true, 8)] (by kernel_rfl) (by kernel_rfl) ?_
    obtain ⟨W0, hW⟩ : ∃ W, W = (w.alloc (.cells #[.int .i64 id, .string item, .int .i64 1, .int .i64 qty, .int .i64 price, .int .i64 0, .int .i64 day] 52)).drew := ⟨_, rfl⟩
    rw [← hW]
    have hE : EvAt W0 w.heap.size ⟨id, item, 1, qty, price, 0, day⟩ := by
      rw [hW]; constructor <;> simp
    have hB0 : Below w.heap.size w W0 := by rw [hW]; exact ((Below.refl _ _).alloc (Nat.le_refl _) _).trans ((below_drew _).mono (by simp))
    clear hW
    have f3 := fun n : Up W0 => (hE.up n).c3
    have f4 := fun n : Up W0 => (hE.up n).c4
    repeat (refine mix_q rfl ?_; go_big_quiet_step (fail); refine wpQuiet_nil ?_)
    refine mix_n rfl ?_
    go_wp2_with fail
    refine (itoaN qty _ (HG.out.below hB0).num (by omega) (by omega)).mono ?_
    rintro e W1 ⟨rfl, hb1⟩
    go_wp2_with fail
    refine ⟨rfl, hb1, ?_⟩
    repeat (refine mix_q rfl ?_; go_big_quiet_step (fail); refine wpQuiet_nil ?_)
    refine mix_n rfl ?_
    go_wp2_with fail
    refine (print_any price _ (by omega) (by omega)).mono ?_
    rintro e W2 ⟨rfl, hb2⟩
    go_wp2_with fail
    refine ⟨rfl, hb2, ?_⟩
    repeat (refine mix_q rfl ?_; go_big_quiet_step (fail); refine wpQuiet_nil ?_)
    refine mix_nil ?_
    go_wp2
    go_ret
    have hB1 := hB0.trans (hb1.mono hB0.size)
    exact ⟨congrArg (fun s => Ending.returned (.string s)) HS.out, hB1.trans (hb2.mono hB1.size)⟩
  · have z1 := itoa_size ofI (by omega) (by omega)
    have z2 := amt_size price (by omega) (by omega)
    have HS := hidN (nums_ch 0 price ofI)
    go_enter Tryz.func62, Tryz.ntmps62
    go_wp2_with fail
    refine wp_region_mix [(true, 0), (true, 1), (true, 4), (true, 5), (false, 2), (true, 3), (false, 6), (true, 7), (true, 8)] (by kernel_rfl) (by kernel_rfl) ?_
    obtain ⟨W0, hW⟩ : ∃ W, W = (w.alloc (.cells #[.int .i64 id, .string item, .int .i64 2, .int .i64 0, .int .i64 price, .int .i64 ofI, .int .i64 day] 52)).drew := ⟨_, rfl⟩
    rw [← hW]
    have hE : EvAt W0 w.heap.size ⟨id, item, 2, 0, price, ofI, day⟩ := by
      rw [hW]; constructor <;> simp
    have hB0 : Below w.heap.size w W0 := by rw [hW]; exact ((Below.refl _ _).alloc (Nat.le_refl _) _).trans ((below_drew _).mono (by simp))
    clear hW
    have f4 := fun n : Up W0 => (hE.up n).c4
    have f5 := fun n : Up W0 => (hE.up n).c5
    repeat (refine mix_q rfl ?_; go_big_quiet_step (fail); refine wpQuiet_nil ?_)
    refine mix_n rfl ?_
    go_wp2_with fail
    refine (print_any price _ (by omega) (by omega)).mono ?_
    rintro e W1 ⟨rfl, hb1⟩
    go_wp2_with fail
    refine ⟨rfl, hb1, ?_⟩
    repeat (refine mix_q rfl ?_; go_big_quiet_step (fail); refine wpQuiet_nil ?_)
    refine mix_n rfl ?_
    go_wp2_with fail
    have hB1 := hB0.trans (hb1.mono hB0.size)
    refine (itoaN ofI _ (HG.out.below hB1).num (by omega) (by omega)).mono ?_
    rintro e W2 ⟨rfl, hb2⟩
    go_wp2_with fail
    refine ⟨rfl, hb2, ?_⟩
    repeat (refine mix_q rfl ?_; go_big_quiet_step (fail); refine wpQuiet_nil ?_)
    refine mix_nil ?_
    go_wp2
    go_ret
    exact ⟨congrArg (fun s => Ending.returned (.string s)) HS.out, hB1.trans (hb2.mono hB1.size)⟩
  · have hb0 : Below w.heap.size w (w.alloc (.cells #[.int .i64 id, .string item, .int .i64 3, .int .i64 qty, .int .i64 0, .int .i64 0, .int .i64 day] 52)) := (Below.refl _ _).alloc (Nat.le_refl _) _
    go_enter Tryz.func62, Tryz.ntmps62
    go_wp2_with fail
    refine (itoaN qty _ (HG.out.below hb0).num (by omega) (by omega)).mono ?_
    rintro e W1 ⟨rfl, hb1⟩
    go_wp2
    go_ret
    exact ⟨rfl, hb0.trans (hb1.mono hb0.size)⟩
  · have hb0 : Below w.heap.size w (w.alloc (.cells #[.int .i64 id, .string item, .int .i64 4, .int .i64 qty, .int .i64 0, .int .i64 0, .int .i64 day] 52)) := (Below.refl _ _).alloc (Nat.le_refl _) _
    go_enter Tryz.func62, Tryz.ntmps62
    go_wp2_with fail
    refine (itoaN qty _ (HG.out.below hb0).num (by omega) (by omega)).mono ?_
    rintro e W1 ⟨rfl, hb1⟩
    go_wp2
    go_ret
    exact ⟨rfl, hb0.trans (hb1.mono hb0.size)⟩
theorem DT_size (n : Int) : (strOfNums (DT n)).size = 10 := by rw [strOfNums_size]; rfl
theorem DT_data (n : Int) : (strOfNums (DT n)).data.toList = bts (DT n) := dtx_data _ _ _
theorem text_is (e : Ev) : strOfNums (DT e.day) ++ ⟨#[32]⟩ ++ eb (wordOf e.kind) ++ ⟨#[32]⟩ ++ e.item ++ ⟨#[32]⟩ ++ eb (nums e.kind e.qty e.price e.ofI) = eb (ET e) := by
  apply dba_ext
  rw [eb_list]
  unfold ET
  simp [DT_data, eb_list]
theorem word_size (k : Int) : (eb (wordOf k)).size ≤ 6 := by
  have e : (eb (wordOf k)).size = (wordOf k).length := by rw [← dba_len]; rfl
  rw [e]
  unfold wordOf
  split
  · decide
  split
  · decide
  split
  · decide
  split
  · decide
  · decide
theorem nums_size {k q p o : Int} (h : rtK k q p o) : (eb (nums k q p o)).size ≤ 60 := by
  have e : (eb (nums k q p o)).size = (nums k q p o).length := by rw [← dba_len]; rfl
  rw [e]
  have hi : ∀ n : Int, 0 ≤ n → n ≤ 9223372036854775807 → (Lib.itoa n).length ≤ 20 := fun n a b => by
    have := itoa_size n a b
    have e : (eb (Lib.itoa n)).size = (Lib.itoa n).length := by rw [← dba_len]; rfl
    omega
  unfold nums
  rcases h with ⟨rfl, ⟨q0, q1⟩, ⟨p0, p1⟩, rfl⟩ | ⟨rfl, rfl, ⟨p0, p1⟩, ⟨o0, o1⟩⟩ | ⟨rfl, ⟨q0, q1⟩, rfl, rfl⟩ | ⟨rfl, ⟨q0, q1⟩, rfl, rfl⟩
  · have a := hi q (by omega) (by omega)
    have b := amt_length p (by omega) (by omega)
    rw [if_pos rfl]; simp only [List.length_append, List.length_cons, List.length_nil]; omega
  · have a := hi o (by omega) (by omega)
    have b := amt_length p (by omega) (by omega)
    rw [if_neg (by decide), if_pos rfl]; simp only [List.length_append, List.length_cons, List.length_nil]; omega
  · have a := hi q (by omega) (by omega)
    rw [if_neg (by decide), if_neg (by decide)]; omega
  · have a := hi q (by omega) (by omega)
    rw [if_neg (by decide), if_neg (by decide)]; omega
theorem name_size {b : ByteArray} (h : isName b.data.toList) : b.size ≤ 10 := by
  have := h.1.2; rw [dba_len] at this; exact this
set_option maxHeartbeats 4000000 in
theorem eprint_bad (e : Ev) (w : World) (hw : EvW e) (h : ¬ Rt e) :
    Calls Tryz.prog 35 #[evV e] w fun x w' => x = .returned (.tuple #[.string ⟨#[]⟩, .iface 23 (.int .i64 1)]) ∧ Below w.heap.size w w' := by
  have HR := fun v : World => hidN (right_any e v hw)
  have HN := hidN h
  clear h hw
  obtain ⟨id, item, kind, qty, price, ofI, day⟩ := e
  have hb0 : Below w.heap.size w (w.alloc (.cells #[.int .i64 id, .string item, .int .i64 kind, .int .i64 qty, .int .i64 price, .int .i64 ofI, .int .i64 day] 52)) := (Below.refl _ _).alloc (Nat.le_refl _) _
  unfold evV at *
  simp only at *
  go_enter Tryz.func35, Tryz.ntmps35
  go_wp2_with fail
  refine (HR _).out.mono ?_
  rintro x W1 ⟨⟨b, rfl, hb⟩, hb1⟩
  clear HR
  have HB := hidN hb
  clear hb
  rcases b with _ | _
  · go_wp2
    go_ret2
    exact ⟨rfl, hb0.trans (hb1.mono hb0.size)⟩
  · exact absurd (HB.out.1 rfl) HN.out
set_option maxHeartbeats 8000000 in
theorem eprint_ok (e : Ev) (w : World) (hg : GlobE w) (hw : EvW e) (h : Rt e) :
    Calls Tryz.prog 35 #[evV e] w fun x w' => x = .returned (.tuple #[.string (eb (ET e)), .nilIface]) ∧ Below w.heap.size w w' := by
  have HR := fun v : World => hidN (right_any e v hw)
  have HM := fun (v : World) (hv : GlobE v) => hidN (numbers_any e v hv h.2.2)
  have hz := hidN (nums_size h.2.2)
  have HN := hidN h
  have HG := hidN hg
  obtain ⟨id, item, kind, qty, price, ofI, day⟩ := e
  have HS := hidN (text_is ⟨id, item, kind, qty, price, ofI, day⟩)
  have z0 := DT_size day
  have z1 := word_size kind
  have z2 := name_size h.1
  have z3 := hz.out
  have hd := h.2.1
  have hk := rtK_kind h.2.2
  clear hz h hw hg
  have hb0 : Below w.heap.size w (w.alloc (.cells #[.int .i64 id, .string item, .int .i64 kind, .int .i64 qty, .int .i64 price, .int .i64 ofI, .int .i64 day] 52)) := (Below.refl _ _).alloc (Nat.le_refl _) _
  have hE0 : EvAt (w.alloc (.cells #[.int .i64 id, .string item, .int .i64 kind, .int .i64 qty, .int .i64 price, .int .i64 ofI, .int .i64 day] 52)) w.heap.size ⟨id, item, kind, qty, price, ofI, day⟩ := by
    constructor <;> simp
  unfold evV at *
  simp only at *
  obtain ⟨t, ht⟩ : ∃ t, t = eb (nums kind qty price ofI) := ⟨_, rfl⟩
  rw [← ht] at z3 HS HM
  obtain ⟨dt, hdt⟩ : ∃ t, t = strOfNums (DT day) := ⟨_, rfl⟩
  have HD := hidN (fun (v : World) (hv : LenTab v) => dprint_ok day v hv hd.1 hd.2)
  rw [← hdt] at z0 HS HD
  obtain ⟨ET0, hET⟩ : ∃ t, t = eb (ET ⟨id, item, kind, qty, price, ofI, day⟩) := ⟨_, rfl⟩
  rw [← hET] at HS ⊢
  obtain ⟨wd, hwd⟩ : ∃ t, t = eb (wordOf kind) := ⟨_, rfl⟩
  rw [← hwd] at z1 HS
  have HK : Hid (wd = eb (wordOf kind)) := hwd
  clear ht hdt hET hwd
  have hU := up_ne
  go_enter Tryz.func35, Tryz.ntmps35
  go_wp2_with fail
  refine (HR _).out.mono ?_
  rintro x W1 ⟨⟨b, rfl, hb⟩, hb1⟩
  obtain rfl : b = true := hb.2 HN.out
  clear HR HN hb
  have hB1 := hb0.trans (hb1.mono hb0.size)
  have hE1 := hE0.below hb1
  have c6 := hE1.c6
  clear hb0 hE0 hb1
  go_wp2_with fail
  refine (HD.out _ (HG.out.below hB1).len).mono ?_
  rintro x W2 ⟨rfl, hb2⟩
  have hB2 := hB1.trans (hb2.mono hB1.size)
  have hE2 := hE1.below hb2
  clear hB1 hE1 hb2 c6 HD
  go_wp2_with fail
  refine wp_region_mix [(true, 0), (true, 1), (true, 2), (true, 3), (true, 4), (true, 5), (true, 6), (true, 7), (true, 8), (true, 9), (true, 10), (true, 11), (true, 12), (false, 13), (true, 14), (true, 15), (true, 16)] (by kernel_rfl) (by kernel_rfl) ?_
  obtain ⟨W3, hW⟩ : ∃ W, W = W2.drew := ⟨_, rfl⟩
  rw [← hW]
  have hb3 : Below W2.heap.size W2 W3 := by rw [hW]; exact below_drew _
  clear hW
  have hB3 := hB2.trans (hb3.mono hB2.size)
  have hE3 := hE2.below hb3
  clear hB2 hE2 hb3
  have HG3 := hidN (HG.out.below hB3)
  have f0 := fun n : Up W3 => (hE3.up n).c0
  have f1 := fun n : Up W3 => (hE3.up n).c1
  have f2 := fun n : Up W3 => (hE3.up n).c2
  have f3 := fun n : Up W3 => (hE3.up n).c3
  have f4 := fun n : Up W3 => (hE3.up n).c4
  have f5 := fun n : Up W3 => (hE3.up n).c5
  have f6 := fun n : Up W3 => (hE3.up n).c6
  rcases hk with rfl | rfl | rfl | rfl
  · have f7 : ∀ n : Up W3, n.v.cell? ⟨0, 1, none⟩ = some (.string wd) := fun n => by rw [HK.out]; exact n.cell (HG3.out.wrd 1 (by omega))
    clear HK
    repeat (refine mix_q rfl ?_; go_big_quiet_step (fail); refine wpQuiet_nil ?_)
    refine mix_n rfl ?_
    go_wp2_with fail
    refine (HM _ HG3.out).out.mono ?_
    rintro x W4 ⟨rfl, hb4⟩
    go_wp2_with fail
    refine ⟨rfl, hb4, ?_⟩
    repeat (refine mix_q rfl ?_; go_big_quiet_step (fail); refine wpQuiet_nil ?_)
    refine mix_nil ?_
    go_wp2
    go_ret2
    exact ⟨congrArg (fun s => Ending.returned (.tuple #[.string s, .nilIface])) HS.out, hB3.trans (hb4.mono hB3.size)⟩
  · have f7 : ∀ n : Up W3, n.v.cell? ⟨0, 2, none⟩ = some (.string wd) := fun n => by rw [HK.out]; exact n.cell (HG3.out.wrd 2 (by omega))
    clear HK
    repeat (refine mix_q rfl ?_; go_big_quiet_step (fail); refine wpQuiet_nil ?_)
    refine mix_n rfl ?_
    go_wp2_with fail
    refine (HM _ HG3.out).out.mono ?_
    rintro x W4 ⟨rfl, hb4⟩
    go_wp2_with fail
    refine ⟨rfl, hb4, ?_⟩
    repeat (refine mix_q rfl ?_; go_big_quiet_step (fail); refine wpQuiet_nil ?_)
    refine mix_nil ?_
    go_wp2
    go_ret2
    exact ⟨congrArg (fun s => Ending.returned (.tuple #[.string s, .nilIface])) HS.out, hB3.trans (hb4.mono hB3.size)⟩
  · have f7 : ∀ n : Up W3, n.v.cell? ⟨0, 3, none⟩ = some (.string wd) := fun n => by rw [HK.out]; exact n.cell (HG3.out.wrd 3 (by omega))
    clear HK
    repeat (refine mix_q rfl ?_; go_big_quiet_step (fail); refine wpQuiet_nil ?_)
    refine mix_n rfl ?_
    go_wp2_with fail
    refine (HM _ HG3.out).out.mono ?_
    rintro x W4 ⟨rfl, hb4⟩
    go_wp2_with fail
    refine ⟨rfl, hb4, ?_⟩
    repeat (refine mix_q rfl ?_; go_big_quiet_step (fail); refine wpQuiet_nil ?_)
    refine mix_nil ?_
    go_wp2
    go_ret2
    exact ⟨congrArg (fun s => Ending.returned (.tuple #[.string s, .nilIface])) HS.out, hB3.trans (hb4.mono hB3.size)⟩
  · have f7 : ∀ n : Up W3, n.v.cell? ⟨0, 4, none⟩ = some (.string wd) := fun n => by rw [HK.out]; exact n.cell (HG3.out.wrd 4 (by omega))
    clear HK
    repeat (refine mix_q rfl ?_; go_big_quiet_step (fail); refine wpQuiet_nil ?_)
    refine mix_n rfl ?_
    go_wp2_with fail
    refine (HM _ HG3.out).out.mono ?_
    rintro x W4 ⟨rfl, hb4⟩
    go_wp2_with fail
    refine ⟨rfl, hb4, ?_⟩
    repeat (refine mix_q rfl ?_; go_big_quiet_step (fail); refine wpQuiet_nil ?_)
    refine mix_nil ?_
    go_wp2
    go_ret2
    exact ⟨congrArg (fun s => Ending.returned (.tuple #[.string s, .nilIface])) HS.out, hB3.trans (hb4.mono hB3.size)⟩
end Go.Proofs.YtapkandekfndoaaGreatDoor
