/- The walks of house.happened, house.number, house.monthOf. The walk of (*house.House).late. -/
import Derived.Test.YtdkhohlhdiekmaaGreatDoorBnEv
import Derived.Test.YtdkhohlhdiekmaaGreatDoorBnP
import Derived.Test.YtdkhohlhdiekmaaGreatDoorBnSh
import Derived.Test.YtdkhohlhdiekmaaGreatDoorBnJr
import Derived.Test.YtdkhohlhdiekmaaGreatDoorBnHm
namespace Go.Proofs.YtdkhohlhdiekmaaGreatDoor
open Go.RowKit
theorem item_small {e : Ev} (h : Rt e) : e.item.size ≤ 1000000 := by
  have := h.1.1.2
  rw [dba_len] at this
  omega
theorem ev_zero (w : World) : EvF (w.alloc (.cells #[.int .i64 0, .string ⟨#[]⟩, .int .i64 0, .int .i64 0, .int .i64 0, .int .i64 0, .int .i64 0] 78)) w.heap.size ⟨0, ⟨#[]⟩, 0, 0, 0, 0, 0⟩ := by
  refine ⟨?_, fun k => ?_⟩
  · constructor <;> simp
  · simp
set_option maxRecDepth 20000 in
set_option maxHeartbeats 4000000 in
theorem happ_ok (s : ByteArray) (e : Ev) (w : World) (hg : GlobE w) (hs : s.size ≤ 1000) (h : Reads s.data.toList e) :
    Calls Tryz.prog 102 #[.string s] w fun x w' => x = .returned (.tuple #[evV e, .nilIface]) ∧ Below w.heap.size w w' := by
  obtain ⟨W0, hW0⟩ : ∃ W, W = w.alloc (.cells #[.int .i64 0, .string ⟨#[]⟩, .int .i64 0, .int .i64 0, .int .i64 0, .int .i64 0, .int .i64 0] 78) := ⟨_, rfl⟩
  have hB0 : Below w.heap.size w W0 := by rw [hW0]; exact (Below.refl _ _).alloc (Nat.le_refl _) _
  have hR0 : EvF W0 w.heap.size ⟨0, ⟨#[]⟩, 0, 0, 0, 0, 0⟩ := by rw [hW0]; exact ev_zero w
  have hlt0 : w.heap.size < W0.heap.size := by rw [hW0]; simp
  have hP := eparse_ok s e W0 (hg.below hB0) hs h
  have hC := fun W => clone_txt e.item W (item_small h.1)
  obtain ⟨id, item, kind, qty, price, ofI, day⟩ := e
  unfold evV at hP ⊢
  simp only at hP hC ⊢
  have HW0 : Hid (W0 = _) := hW0
  clear hg h hW0
  go_enter Tryz.func102, Tryz.ntmps102
  go_wp2_with fail
  rw [← HW0.out]
  refine hP.mono ?_
  rintro x w1 ⟨rfl, hb1⟩
  obtain ⟨W2, hW2⟩ : ∃ W, W = w1.alloc (.cells #[.int .i64 id, .string item, .int .i64 kind, .int .i64 qty, .int .i64 price, .int .i64 ofI, .int .i64 day] 78) := ⟨_, rfl⟩
  have hb2 : Below w1.heap.size w1 W2 := by rw [hW2]; exact (Below.refl _ _).alloc (Nat.le_refl _) _
  have hE : EvF W2 w1.heap.size ⟨id, item, kind, qty, price, ofI, day⟩ := by
    rw [hW2]; refine ⟨?_, fun k => ?_⟩
    · constructor <;> simp
    · simp
  have hB1 : Below w.heap.size w w1 := hB0.trans (hb1.mono hB0.size)
  have hB2 : Below w.heap.size w W2 := hB1.trans (hb2.mono hB1.size)
  have hR2 := (hR0.below hb1).below hb2
  have hne : ¬ w1.heap.size = w.heap.size := by have := hb1.size; omega
  have hne' : ¬ w.heap.size = w1.heap.size := by omega
  have hge := hB1.size
  have HW2 : Hid (W2 = _) := hW2
  clear hP hW2 HW0 hR0 hb2 hB0
  go_wp2_with fail
  rw [← HW2.out]
  refine (hC _).mono ?_
  rintro x w3 ⟨rfl, hb3⟩
  have hB3 : Below w.heap.size w w3 := hB2.trans (hb3.mono hB2.size)
  obtain ⟨r0, r1, r2, r3, r4, r5, r6⟩ := (hR2.below hb3).ev
  have rf := (hR2.below hb3).fz
  obtain ⟨x0, x1, x2, x3, x4, x5, x6⟩ := (hE.below hb3).ev
  have xf := (hE.below hb3).fz
  simp only at r0 r1 r2 r3 r4 r5 r6 x0 x1 x2 x3 x4 x5 x6
  clear HW2 hC hE hR2 hb3 hB2 hb1 hB1
  go_wp2
  refine bodyPost_ret (v := .tuple #[.agg #[.int .i64 id, .string item, .int .i64 kind, .int .i64 qty, .int .i64 price, .int .i64 ofI, .int .i64 day], .nilIface]) (by simp [results, Tryz.results102, go_sem, *]) rfl ⟨rfl, ?_⟩
  exact (((((((hB3.setCell hge _).setCell (Nat.le_refl _) _).setCell (Nat.le_refl _) _).setCell (Nat.le_refl _) _).setCell (Nat.le_refl _) _).setCell (Nat.le_refl _) _).setCell (Nat.le_refl _) _).setCell (Nat.le_refl _) _
set_option maxRecDepth 20000 in
set_option maxHeartbeats 4000000 in
theorem happ_bad (s : ByteArray) (w : World) (hg : GlobE w) (hs : s.size ≤ 1000) (h : ∀ e, ¬ Reads s.data.toList e) :
    Calls Tryz.prog 102 #[.string s] w fun x w' => x = .returned (.tuple #[evV ev0, errV 3]) ∧ Below w.heap.size w w' := by
  obtain ⟨W0, hW0⟩ : ∃ W, W = w.alloc (.cells #[.int .i64 0, .string ⟨#[]⟩, .int .i64 0, .int .i64 0, .int .i64 0, .int .i64 0, .int .i64 0] 78) := ⟨_, rfl⟩
  have hB0 : Below w.heap.size w W0 := by rw [hW0]; exact (Below.refl _ _).alloc (Nat.le_refl _) _
  have hR0 : EvF W0 w.heap.size ⟨0, ⟨#[]⟩, 0, 0, 0, 0, 0⟩ := by rw [hW0]; exact ev_zero w
  have hlt0 : w.heap.size < W0.heap.size := by rw [hW0]; simp
  have hP := eparse_bad s W0 (hg.below hB0) hs h
  unfold evV ev0 at hP ⊢
  simp only at hP ⊢
  unfold errV
  rw [if_neg (by decide)]
  have HW0 : Hid (W0 = _) := hW0
  clear hg h hW0
  go_enter Tryz.func102, Tryz.ntmps102
  go_wp2_with fail
  rw [← HW0.out]
  refine hP.mono ?_
  rintro x w1 ⟨rfl, hb1⟩
  obtain ⟨W2, hW2⟩ : ∃ W, W = w1.alloc (.cells #[.int .i64 0, .string ⟨#[]⟩, .int .i64 0, .int .i64 0, .int .i64 0, .int .i64 0, .int .i64 0] 78) := ⟨_, rfl⟩
  have hb2 : Below w1.heap.size w1 W2 := by rw [hW2]; exact (Below.refl _ _).alloc (Nat.le_refl _) _
  have hB1 : Below w.heap.size w w1 := hB0.trans (hb1.mono hB0.size)
  have hB2 : Below w.heap.size w W2 := hB1.trans (hb2.mono hB1.size)
  obtain ⟨r0, r1, r2, r3, r4, r5, r6⟩ := ((hR0.below hb1).below hb2).ev
  have rf := ((hR0.below hb1).below hb2).fz
  simp only at r0 r1 r2 r3 r4 r5 r6
  rw [hW2] at r0 r1 r2 r3 r4 r5 r6 rf hB2
  clear hP hW2 HW0 hR0 hb2 hB0 hb1 hB1
  go_wp2
  refine bodyPost_ret (v := .tuple #[.agg #[.int .i64 0, .string ⟨#[]⟩, .int .i64 0, .int .i64 0, .int .i64 0, .int .i64 0, .int .i64 0], .iface 43 (.int .i64 3)]) (by simp [results, Tryz.results102, go_sem, *]) rfl ⟨rfl, ?_⟩
  exact ((((((hB2.setCell (Nat.le_refl _) _).setCell (Nat.le_refl _) _).setCell (Nat.le_refl _) _).setCell (Nat.le_refl _) _).setCell (Nat.le_refl _) _).setCell (Nat.le_refl _) _).setCell (Nat.le_refl _) _
theorem numO_some {l : List UInt8} {v : Int} (h : numO l = some v) : Lib.atoiAll l = .ok v ∧ Lib.itoa v = l := by
  unfold numO at h
  split at h
  · rename_i u hu
    split at h
    · rename_i hi
      cases h
      exact ⟨hu, hi⟩
    · cases h
  · cases h
theorem numO_none {l : List UInt8} (h : numO l = none) {v : Int} (ha : Lib.atoiAll l = .ok v) : Lib.itoa v ≠ l := fun e => by
  unfold numO at h
  rw [ha] at h
  simp only [e, if_true] at h
  cases h
theorem numO_bd {l : List UInt8} {v : Int} (h : numO l = some v) : -9223372036854775808 ≤ v ∧ v ≤ 9223372036854775807 := Lib.atoiAll_bounds (numO_some h).1
set_option maxHeartbeats 4000000 in
theorem number_ok (s : ByteArray) (v : Int) (w : World) (hg : GlobN w) (hs : s.size ≤ 1000) (h : numO s.data.toList = some v) :
    Calls Tryz.prog 105 #[.string s] w fun x w' => x = .returned (.tuple #[.int .i64 v, .nilIface]) ∧ Below w.heap.size w w' := by
  obtain ⟨h1, h2⟩ := numO_some h
  have hbd := numO_bd h
  have hA := atoiN s w hg (by omega)
  have HI := fun (W : World) (hW : GlobN W) => hidN (itoaN v W hW hbd.1 hbd.2)
  have he : eb (Lib.itoa v) = s := by rw [h2]; cases s; simp [eb]
  rw [he] at HI
  have HG := hidN hg
  have H1 := hidN h1
  clear hg he h h1 h2 hbd
  go_enter Tryz.func105, Tryz.ntmps105
  go_wp2_with fail
  refine hA.mono ?_
  rintro x w1 ⟨⟨u, hu, rfl⟩ | ⟨u, tq, q, hu, rfl⟩, hb1⟩
  · obtain rfl : u = v := by
      have e := hu.symm.trans H1.out
      injection e
    have hI := (HI w1 (HG.out.below hb1)).out
    clear HI hu H1 hA
    go_wp2_with fail
    refine hI.mono ?_
    rintro x w2 ⟨rfl, hb2⟩
    clear hI
    go_wp2
    go_ret2
    exact ⟨rfl, hb1.trans (hb2.mono hb1.size)⟩
  · exact absurd H1.out (hu v)
set_option maxHeartbeats 4000000 in
theorem number_bad (s : ByteArray) (w : World) (hg : GlobN w) (hs : s.size ≤ 1000) (h : numO s.data.toList = none) :
    Calls Tryz.prog 105 #[.string s] w fun x w' => x = .returned (.tuple #[.int .i64 0, errV 3]) ∧ Below w.heap.size w w' := by
  have hA := atoiN s w hg (by omega)
  have HG := hidN hg
  have HN := hidN h
  unfold errV
  rw [if_neg (by decide)]
  clear hg h
  go_enter Tryz.func105, Tryz.ntmps105
  go_wp2_with fail
  refine hA.mono ?_
  rintro x w1 ⟨⟨u, hu, rfl⟩ | ⟨u, tq, q, hu, rfl⟩, hb1⟩
  · have hbd := Lib.atoiAll_bounds hu
    have hI := itoaN u w1 (HG.out.below hb1) hbd.1 hbd.2
    obtain ⟨t, ht⟩ : ∃ t, t = eb (Lib.itoa u) := ⟨_, rfl⟩
    have hc : (t.toList == s.toList) = false := by
      rw [ht, eqlB_iff]
      apply decide_eq_false
      rw [show (eb (Lib.itoa u)).data.toList = Lib.itoa u by simp [eb]]
      exact numO_none HN.out hu
    rw [← ht] at hI
    clear hu hA ht hbd
    go_wp2_with fail
    refine hI.mono ?_
    rintro x w2 ⟨rfl, hb2⟩
    clear hI
    go_wp2
    go_ret2
    exact ⟨rfl, hb1.trans (hb2.mono hb1.size)⟩
  · clear hu hA
    go_wp2
    go_ret2
    exact ⟨rfl, hb1⟩
def tDay1 : ByteArray := ⟨#[45, 48, 49]⟩
theorem day1_app (s : ByteArray) : (s ++ tDay1).data.toList = s.data.toList ++ [45, 48, 49] := by simp [tDay1, ByteArray.data_append]
set_option maxHeartbeats 4000000 in
theorem month_ok (s : ByteArray) (n : Int) (w : World) (hl : LenTab w) (hs : s.size ≤ 1000) (h : dparsed (s.data.toList ++ [45, 48, 49]) = some n) :
    Calls Tryz.prog 108 #[.string s] w fun x w' => x = .returned (.tuple #[.int .i64 (dK n : Int), .nilIface]) ∧ Below w.heap.size w w' := by
  rw [← day1_app] at h
  have hP := dparse_ok (s ++ tDay1) n w hl h
  have hd := dparsed_some h
  have hM := fun (W : World) (hW : LenTab W) => hidN (dmonth_ok n W hW hd.2.1 hd.2.2.1)
  have HL := hidN hl
  unfold tDay1 at hP
  clear h hd hl
  go_enter Tryz.func108, Tryz.ntmps108
  go_wp2_with fail
  refine hP.mono ?_
  rintro x w1 ⟨rfl, hb1⟩
  have hm := (hM w1 (HL.out.below hb1)).out
  clear hP hM
  go_wp2_with fail
  refine hm.mono ?_
  rintro x w2 ⟨rfl, hw2⟩
  subst w2
  clear hm
  go_wp2
  go_ret2
  exact ⟨rfl, hb1⟩
set_option maxHeartbeats 4000000 in
theorem month_bad (s : ByteArray) (w : World) (hl : LenTab w) (hs : s.size ≤ 1000) (h : dparsed (s.data.toList ++ [45, 48, 49]) = none) :
    Calls Tryz.prog 108 #[.string s] w fun x w' => x = .returned (.tuple #[.int .i64 0, errV 3]) ∧ Below w.heap.size w w' := by
  rw [← day1_app] at h
  have hz : (s ++ tDay1).size ≤ maxLen := by rw [ByteArray.size_append]; unfold maxLen; have : tDay1.size = 3 := rfl; omega
  have hP := dparse_bad (s ++ tDay1) w hl hz h
  unfold tDay1 at hP
  unfold errV
  rw [if_neg (by decide)]
  clear h hl hz
  go_enter Tryz.func108, Tryz.ntmps108
  go_wp2_with fail
  refine hP.mono ?_
  rintro x w1 ⟨rfl, hb1⟩
  clear hP
  go_wp2
  go_ret2
  exact ⟨rfl, hb1⟩
end Go.Proofs.YtdkhohlhdiekmaaGreatDoor
namespace Go.Proofs.YtdkhohlhdiekmaaGreatDoor
open Go.RowKit
set_option maxHeartbeats 4000000 in
theorem hlate_any {w : World} {B ph : Nat} {sv cv : Value} {h : Hs} (a : HsAt w B ph sv cv h) (ht : LenTab w) (hc : h.cs.length ≤ 60) (e : Ev) (h0 : 0 ≤ e.day) (h1 : e.day ≤ 99999) :
    Calls Tryz.prog 104 #[.pointer (some ⟨ph, 0, none⟩), evV e] w fun x w' => x = .returned (.string (ba (lateT h.cs e))) ∧ Below w.heap.size w w' := by
  have hl := fun W (hb : Below w.heap.size w W) => hidN (late_any (a.below hb).pr (ht.below hb) (by omega) e.day h0 h1)
  have HX : Hid (lateT h.cs e = if cov h.cs (dK e.day) = true then tLate else []) := rfl
  obtain ⟨id, item, kind, qty, price, ofI, day⟩ := e
  unfold evV
  simp only at hl HX ⊢
  obtain ⟨W0, hW⟩ : ∃ W, W = (w.alloc (.cells #[.int .i64 id, .string item, .int .i64 kind, .int .i64 qty, .int .i64 price, .int .i64 ofI, .int .i64 day] 78)).drew := ⟨_, rfl⟩
  have hE : EvAt W0 w.heap.size ⟨id, item, kind, qty, price, ofI, day⟩ := by rw [hW]; constructor <;> simp
  have hb0 : Below w.heap.size w W0 := by rw [hW]; exact ((Below.refl _ _).alloc (Nat.le_refl _) _).trans ((below_drew _).mono (by simp))
  have hl1 := (hl _ hb0).out
  generalize hcb : cov h.cs (dK day) = cb at hl1 HX
  rw [HX.out]
  have HW : Hid (W0 = _) := hW
  clear hl a ht hcb hW
  have hU := up_ne
  have hA := anyW_ne
  go_enter Tryz.func104, Tryz.ntmps104
  go_wp2_with fail
  refine wp_region_turn [(.pure, 0), (.pure, 1), (.pure, 2), (.pure, 3), (.read, 4), (.make, 5)] (by kernel_rfl) (by kernel_rfl) ?_
  rw [← HW.out]
  have f6 := fun n : Up W0 => (hE.up n).c6
  simp only at f6
  clear HW
  repeat (first | refine turn_p rfl ?_ | refine turn_q rfl ?_); go_big_quiet_step (fail); refine wpQuiet_nil ?_
  refine turn_n rfl ?_
  go_wp2_with fail
  refine hl1.mono ?_
  rintro x w1 ⟨rfl, hb1⟩
  have hB : Below w.heap.size w w1 := hb0.trans (hb1.mono hb0.size)
  have HB1 := hidE hb1
  clear hl1 hb0 hb1 hE f6
  go_wp2_with fail
  refine ⟨rfl, HB1.out, ?_⟩
  refine turn_nil ?_
  clear HB1
  cases cb
  · go_wp2
    go_ret
    exact ⟨rfl, hB⟩
  · go_wp2
    go_ret
    exact ⟨rfl, hB⟩
end Go.Proofs.YtdkhohlhdiekmaaGreatDoor
