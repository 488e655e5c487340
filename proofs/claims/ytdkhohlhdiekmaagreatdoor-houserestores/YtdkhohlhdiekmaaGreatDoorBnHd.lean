/- The walks of the house's deeds: post, correct, void, close, refuse. The walks of the house's deeds: refuse, void, correct. -/
import Derived.Test.YtdkhohlhdiekmaaGreatDoorBnHs
import Derived.Test.YtdkhohlhdiekmaaGreatDoorBnHm
import Derived.Test.YtdkhohlhdiekmaaGreatDoorBnHk
import Derived.Test.YtdkhohlhdiekmaaGreatDoorBnJr
namespace Go.Proofs.YtdkhohlhdiekmaaGreatDoor
open Go.RowKit
/-- What a deed answers, and leaves. -/
def DeedP (w : World) (B ph : Nat) (sv cv : Value) (h : Hs) (d : Dd) (r : Ending) (w' : World) : Prop :=
  ∃ sv' cv', r = .returned (.tuple #[.string (ba d.told), errV d.c]) ∧ HsAt w' B ph sv' cv' ⟨d.bk, d.cs, h.ls⟩ ∧ HTurn w w' ph sv cv sv' cv'
theorem deed_none {w w' : World} {B ph : Nat} {sv cv : Value} {h : Hs} (a : HsAt w B ph sv cv h) (hb : Below w.heap.size w w') (c : Int) : DeedP w B ph sv cv h (ddE h.bk h.cs c) (.returned (.tuple #[.string ⟨#[]⟩, errV c])) w' :=
  ⟨sv, cv, rfl, a.below hb, HTurn.of_below hb⟩
theorem takes_full {b : Bk} {e : Ev} {c : Int} (hr : Rt e) (h : TakesE b e c) (h0 : c ≠ 0) : c = 12 ∧ ¬ b.vs.length < 120 := by
  rcases h with ⟨_, h⟩ | ⟨h, _, h2⟩ | ⟨h, _⟩
  · exact absurd hr h
  · exact ⟨h, by omega⟩
  · exact absurd h h0
theorem late_len (cs : List Cl) (e : Ev) : (ba (lateT cs e)).size ≤ 5 := by
  rw [ba_size]; unfold lateT; split <;> simp [tLate]
theorem errV_ne {c : Int} (h : c ≠ 0) : errV c = .iface 43 (.int .i64 c) := if_neg h
def tPostedB : ByteArray := ⟨#[112, 111, 115, 116, 101, 100, 32]⟩
set_option maxRecDepth 20000 in
set_option maxHeartbeats 8000000 in
theorem post_deed {w : World} {B ph : Nat} {sv cv : Value} {h : Hs} (a : HsAt w B ph sv cv h) (ho : HsOk h) (hn : h.ls.length ≤ 100000) (hg : Ground B w) (s : ByteArray) (hs : s.size ≤ 1000) :
    Calls Tryz.prog 61 #[.pointer (some ⟨ph, 0, none⟩), .string s] w (DeedP w B ph sv cv h (postD h.bk h.cs s.data.toList)) := by
  have hbn := ho.n
  rcases he : evOf s.data.toList with _ | e
  · have HD : postD h.bk h.cs s.data.toList = ddE h.bk h.cs 3 := by unfold postD; rw [he]
    rw [HD]
    have hP := happ_bad s w hg.glob.ev hs (evOf_none he)
    have HF : Hid (∀ w', Below w.heap.size w w' → DeedP w B ph sv cv h (ddE h.bk h.cs 3) (.returned (.tuple #[.string ⟨#[]⟩, errV 3])) w') := fun w' hb => deed_none a hb 3
    rw [errV_ne (by decide)] at hP HF
    unfold evV ev0 at hP
    simp only at hP
    clear a ho hg he HD hbn hn
    go_enter Tryz.func61, Tryz.ntmps61
    go_wp2_with fail
    refine hP.mono ?_
    rintro x w1 ⟨rfl, hb1⟩
    have hF := HF.out _ (hb1.alloc hb1.size (.cells #[.int .i64 0, .string ⟨#[]⟩, .int .i64 0, .int .i64 0, .int .i64 0, .int .i64 0, .int .i64 0] 78))
    clear hP HF
    go_wp2
    go_ret2
    exact hF
  · have hR := evOf_some he
    have hrt := hR.1
    have hew := evW_of hR (by rw [size_data]; exact hs)
    have hP := happ_ok s e w hg.glob.ev hs hR
    have HPO := fun (W : World) (aW : HsAt W B ph sv cv h) => hidN (post_does aW.bk (ho.inv.ok (by omega)) e hew)
    have HLT := fun (W : World) (sv' : Value) (h' : Hs) (aW : HsAt W B ph sv' cv h') (hW : GlobE W) (hc : h'.cs.length ≤ 60) => hidN (hlate_any aW hW.len hc e hrt.2.1.1 hrt.2.1.2)
    have HE := hidN he
    have HA := hidN a
    have HO := hidN ho
    have HG := hidN hg
    have HRT := hidN hrt
    obtain ⟨id, item, kind, qty, price, ofI, day⟩ := e
    unfold evV at hP HPO HLT
    simp only at hP HPO HLT
    clear a ho hg he hR hew hrt
    go_enter Tryz.func61, Tryz.ntmps61
    go_wp2_with fail
    refine hP.mono ?_
    rintro x w1 ⟨rfl, hb1⟩
    obtain ⟨W2, hW2⟩ : ∃ W, W = w1.alloc (.cells #[.int .i64 id, .string item, .int .i64 kind, .int .i64 qty, .int .i64 price, .int .i64 ofI, .int .i64 day] 78) := ⟨_, rfl⟩
    have hb2 : Below w1.heap.size w1 W2 := by rw [hW2]; exact (Below.refl _ _).alloc (Nat.le_refl _) _
    have hE2 : EvAt W2 w1.heap.size ⟨id, item, kind, qty, price, ofI, day⟩ := by rw [hW2]; constructor <;> simp
    have hB2 : Below w.heap.size w W2 := hb1.trans (hb2.mono hb1.size)
    have hlt2 : w1.heap.size < W2.heap.size := by rw [hW2]; simp
    have hA2 := HA.out.below hB2
    have HW2 : Hid (W2 = _) := hW2
    clear hP hW2
    go_wp2_with fail
    rw [← HW2.out]
    refine wp_region_turn [(.pure, 0), (.pure, 1), (.pure, 2), (.read, 3), (.turn, 4), (.pure, 5), (.pure, 6), (.pure, 7), (.pure, 8), (.pure, 9)] (by kernel_rfl) (by kernel_rfl) ?_
    obtain ⟨W3, hW3⟩ : ∃ W, W = W2.drew := ⟨_, rfl⟩
    rw [← hW3]
    have hb3 : Below W2.heap.size W2 W3 := by rw [hW3]; exact below_drew _
    have hB3 : Below w.heap.size w W3 := hB2.trans (hb3.mono hB2.size)
    have hA3 := HA.out.below hB3
    have hE3 := hE2.below hb3
    have hPO := (HPO W3 hA3).out
    have HA3 := hidN hA3
    have hU := up_ne
    have hA := anyW_ne
    have f0 := fun n : Up W3 => (hE3.up n).c0
    have f1 := fun n : Up W3 => (hE3.up n).c1
    have f2 := fun n : Up W3 => (hE3.up n).c2
    have f3 := fun n : Up W3 => (hE3.up n).c3
    have f4 := fun n : Up W3 => (hE3.up n).c4
    have f5 := fun n : Up W3 => (hE3.up n).c5
    have f6 := fun n : Up W3 => (hE3.up n).c6
    simp only at f0 f1 f2 f3 f4 f5 f6
    have HE3 := hidN hE3
    have hlt3 : w1.heap.size < W3.heap.size := Nat.lt_of_lt_of_le hlt2 hb3.size
    clear hW3 HW2 hA3 hE2 hE3 hA2 HPO hb2 hB2 hb3
    repeat (first | refine turn_p rfl ?_ | refine turn_q rfl ?_); go_big_quiet_step (fail); refine wpQuiet_nil ?_
    clear f0 f1 f2 f3 f4 f5 f6
    refine turn_t rfl ?_
    go_wp2_with fail
    refine hPO.mono ?_
    rintro x w4 ⟨m, c, b', sv', rfl, hcase, H3, T3, F3⟩
    have HC := hidN hcase
    have HT := hidN (And.intro H3 (And.intro T3 F3))
    clear hcase H3 T3 F3 hPO
    go_wp2_with fail
    refine ⟨rfl, ?_⟩
    repeat (first | refine turn_p rfl ?_ | refine turn_q rfl ?_); go_big_quiet_step (fail); refine wpQuiet_nil ?_
    refine turn_nil ?_
    obtain ⟨H3, T3, F3⟩ := HT.out
    obtain ⟨hA4, hT4⟩ := HA3.out.book H3 T3 F3
    have hT4' : HTurn w w4 ph sv cv sv' cv := (HTurn.of_below hB3).trans hT4
    rcases HC.out with ⟨rfl, hc0, htk, rfl⟩ | ⟨rfl, rfl, _, hl, rfl⟩
    · obtain ⟨rfl, hl⟩ := takes_full HRT.out htk hc0
      have HF : Hid (DeedP w B ph sv cv h (postD h.bk h.cs s.data.toList) (.returned (.tuple #[.string ⟨#[]⟩, errV 12])) w4) := by
        have e1 : postD h.bk h.cs s.data.toList = ddE h.bk h.cs 12 := by unfold postD; rw [HE.out]; exact if_neg hl
        show DeedP _ _ _ _ _ _ _ _ _
        rw [e1]
        exact ⟨sv', cv, rfl, hA4, hT4'⟩
      rw [errV_ne (by decide)] at HF ⊢
      clear HT HC HA3 H3 T3 F3 hA4 hT4 hT4' htk HE
      go_wp2
      go_ret2
      exact HF.out
    · have hE4 : EvAt w4 w1.heap.size ⟨id, item, kind, qty, price, ofI, day⟩ := by
        have e := T3.block w1.heap.size hlt3 (by have := HA.out.lt; have := hb1.size; omega) (fun e => by have := (HA.out.mine (Or.inr (Or.inl e))).2; have := hb1.size; omega)
        have c (o : Nat) : w4.cell? ⟨w1.heap.size, o, none⟩ = W3.cell? ⟨w1.heap.size, o, none⟩ := World.cell?_of_block (a := ⟨w1.heap.size, o, none⟩) e
        have x := HE3.out
        exact ⟨(c 0).trans x.c0, (c 1).trans x.c1, (c 2).trans x.c2, (c 3).trans x.c3, (c 4).trans x.c4, (c 5).trans x.c5, (c 6).trans x.c6⟩
      rw [show errV 0 = Value.nilIface from rfl]
      have HA4 := hidN hA4
      have HT4 := hidN hT4'
      have HE4 := hidN hE4
      clear HT HC HA3 H3 T3 F3 hA4 hT4 hT4' hE4 HE3
      have hg0 := HO.out.inv.g0
      have hgn := HO.out.inv.gn
      obtain ⟨t1, ht1⟩ : ∃ t, t = eb (Lib.itoa (h.bk.g + 1)) := ⟨_, rfl⟩
      have hz1 : t1.size ≤ 20 := by rw [ht1]; exact itoa_size _ (by omega) (by omega)
      obtain ⟨t2, ht2⟩ : ∃ t, t = ba (lateT h.cs ⟨id, item, kind, qty, price, ofI, day⟩) := ⟨_, rfl⟩
      have hz2 : t2.size ≤ 5 := by rw [ht2]; exact late_len _ _
      have HTX : Hid (tPostedB ++ t1 ++ t2 = ba (tPosted ++ Lib.itoa (h.bk.g + 1) ++ lateT h.cs ⟨id, item, kind, qty, price, ofI, day⟩)) := by
        show _ = _
        rw [ht1, ht2, ← ba_app, ← ba_app]; rfl
      have HPD : Hid (postD h.bk h.cs s.data.toList = ⟨tPosted ++ Lib.itoa (h.bk.g + 1) ++ lateT h.cs ⟨id, item, kind, qty, price, ofI, day⟩, 0, postB h.bk ⟨id, item, kind, qty, price, ofI, day⟩, h.cs⟩) := by
        show _ = _
        unfold postD; rw [HE.out]; exact if_pos hl
      unfold tPostedB at HTX
      go_wp2_with fail
      refine wp_region_turn [(.pure, 0), (.pure, 3), (.read, 4), (.make, 1), (.pure, 2), (.make, 5), (.pure, 6), (.pure, 7), (.pure, 8)] (by kernel_rfl) (by kernel_rfl) ?_
      obtain ⟨W5, hW5⟩ : ∃ W, W = w4.drew := ⟨_, rfl⟩
      rw [← hW5]
      have hb5 : Below w4.heap.size w4 W5 := by rw [hW5]; exact below_drew _
      have hE5 := HE4.out.below hb5
      have hA5 := HA4.out.below hb5
      have hT5 : HTurn w W5 ph sv cv sv' cv := HT4.out.trans (HTurn.of_below hb5)
      have hG5 : GlobE W5 := (HG.out.turn HA.out hT5).glob.ev
      have hI := itoaN (h.bk.g + 1) W5 hG5.num (by omega) (by omega)
      rw [← ht1] at hI
      have f0 := fun n : Up W5 => (hE5.up n).c0
      have f1 := fun n : Up W5 => (hE5.up n).c1
      have f2 := fun n : Up W5 => (hE5.up n).c2
      have f3 := fun n : Up W5 => (hE5.up n).c3
      have f4 := fun n : Up W5 => (hE5.up n).c4
      have f5 := fun n : Up W5 => (hE5.up n).c5
      have f6 := fun n : Up W5 => (hE5.up n).c6
      simp only at f0 f1 f2 f3 f4 f5 f6
      have HA5 := hidN hA5
      have HT5 := hidN hT5
      have HG5 := hidN hG5
      have HT2 := hidN ht2
      clear hW5 hE5 hA5 hT5 hG5 HA4 HT4 HE4 hb5 ht1 ht2
      repeat (first | refine turn_p rfl ?_ | refine turn_q rfl ?_); go_big_quiet_step (fail); refine wpQuiet_nil ?_
      clear f0 f1 f2 f3 f4 f5 f6
      refine turn_n rfl ?_
      go_wp2_with fail
      refine hI.mono ?_
      rintro x w6 ⟨rfl, hb6⟩
      have hL := (HLT w6 sv' _ (HA5.out.below hb6) (HG5.out.below hb6) HO.out.cs).out
      rw [← HT2.out] at hL
      have HB6 := hidN hb6
      clear hI hb6 HLT
      go_wp2_with fail
      refine ⟨rfl, HB6.out, ?_⟩
      repeat (first | refine turn_p rfl ?_ | refine turn_q rfl ?_); go_big_quiet_step (fail); refine wpQuiet_nil ?_
      refine turn_n rfl ?_
      go_wp2_with fail
      refine hL.mono ?_
      rintro x w7 ⟨rfl, hb7⟩
      have HB7 := hidN hb7
      have HFIN : Hid (DeedP w B ph sv cv h (postD h.bk h.cs s.data.toList) (.returned (.tuple #[.string (ba (tPosted ++ Lib.itoa (h.bk.g + 1) ++ lateT h.cs ⟨id, item, kind, qty, price, ofI, day⟩)), .nilIface])) w7) := by
        show DeedP _ _ _ _ _ _ _ _ _
        rw [HPD.out]
        have hb67 : Below w6.heap.size w6 w7 := hb7
        exact ⟨sv', cv, rfl, (HA5.out.below HB6.out).below hb67, (HT5.out.trans (HTurn.of_below HB6.out)).trans (HTurn.of_below hb67)⟩
      clear hL hb7
      go_wp2_with fail
      refine ⟨rfl, HB7.out, ?_⟩
      repeat (first | refine turn_p rfl ?_ | refine turn_q rfl ?_); go_big_quiet_step (fail); refine wpQuiet_nil ?_
      refine turn_nil ?_
      have e1 := HTX.out
      go_wp2
      go_ret2
      rw [e1]
      exact HFIN.out
end Go.Proofs.YtdkhohlhdiekmaaGreatDoor
namespace Go.Proofs.YtdkhohlhdiekmaaGreatDoor
open Go.RowKit
theorem refuse_deed {w : World} {B ph : Nat} {sv cv : Value} {h : Hs} (a : HsAt w B ph sv cv h) (s : ByteArray) :
    Calls Tryz.prog 65 #[.pointer (some ⟨ph, 0, none⟩), .string s] w (DeedP w B ph sv cv h (ddE h.bk h.cs 3)) := by
  have HF : Hid (DeedP w B ph sv cv h (ddE h.bk h.cs 3) (.returned (.tuple #[.string ⟨#[]⟩, errV 3])) w) := deed_none a (Below.refl _ _) 3
  rw [errV_ne (by decide)] at HF
  clear a
  go_enter Tryz.func65, Tryz.ntmps65
  go_wp2
  go_ret2
  exact HF.out
set_option maxRecDepth 20000 in
set_option maxHeartbeats 8000000 in
theorem void_deed {w : World} {B ph : Nat} {sv cv : Value} {h : Hs} (a : HsAt w B ph sv cv h) (ho : HsOk h) (hn : h.ls.length ≤ 100000) (hg : Ground B w) (s : ByteArray) (hs : s.size ≤ 1000) :
    Calls Tryz.prog 63 #[.pointer (some ⟨ph, 0, none⟩), .string s] w (DeedP w B ph sv cv h (voidD h.bk h.cs s.data.toList)) := by
  have hbn := ho.n
  rcases he : numO s.data.toList with _ | id
  · have HD : voidD h.bk h.cs s.data.toList = ddE h.bk h.cs 3 := by unfold voidD; rw [he]
    rw [HD]
    have hP := number_bad s w hg.glob.ev.num hs he
    have HF : Hid (∀ w', Below w.heap.size w w' → DeedP w B ph sv cv h (ddE h.bk h.cs 3) (.returned (.tuple #[.string ⟨#[]⟩, errV 3])) w') := fun w' hb => deed_none a hb 3
    rw [errV_ne (by decide)] at hP HF
    clear a ho hg he HD hbn hn
    go_enter Tryz.func63, Tryz.ntmps63
    go_wp2_with fail
    refine hP.mono ?_
    rintro x w1 ⟨rfl, hb1⟩
    have hF := HF.out _ hb1
    clear hP HF
    go_wp2
    go_ret2
    exact hF
  · have hP := number_ok s id w hg.glob.ev.num hs he
    have HV := fun (W : World) (aW : HsAt W B ph sv cv h) => hidN (void_does aW.bk (ho.inv.ok (by omega)) id)
    have HE := hidN he
    have HA := hidN a
    clear a ho hg he hbn hn
    go_enter Tryz.func63, Tryz.ntmps63
    go_wp2_with fail
    refine hP.mono ?_
    rintro x w1 ⟨rfl, hb1⟩
    have hA1 := HA.out.below hb1
    have hV := (HV w1 hA1).out
    have HA1 := hidN hA1
    clear hP HV hA1
    go_wp2_with fail
    refine hV.mono ?_
    rintro x w2 ⟨c, b', sv', rfl, hcase, H3, T3, F3⟩
    obtain ⟨hA2, hT2⟩ := HA1.out.book H3 T3 F3
    have hT2' : HTurn w w2 ph sv cv sv' cv := (HTurn.of_below hb1).trans hT2
    rcases hcase with ⟨rfl, hk, rfl⟩ | ⟨rfl, k, hk, hkx, rfl⟩
    · have HF : Hid (DeedP w B ph sv cv h (voidD h.bk h.cs s.data.toList) (.returned (.tuple #[.string ⟨#[]⟩, errV 7])) w2) := by
        have e1 : voidD h.bk h.cs s.data.toList = ddE h.bk h.cs 7 := by unfold voidD; rw [HE.out]; exact if_pos hk
        show DeedP _ _ _ _ _ _ _ _ _
        rw [e1]
        exact ⟨sv', cv, rfl, hA2, hT2'⟩
      rw [errV_ne (by decide)] at HF ⊢
      clear H3 T3 F3 hA2 hT2 hT2' HA1 HE hk hV
      go_wp2
      go_ret2
      exact HF.out
    · have HF : Hid (DeedP w B ph sv cv h (voidD h.bk h.cs s.data.toList) (.returned (.tuple #[.string (ba tVoided), .nilIface])) w2) := by
        have e1 : voidD h.bk h.cs s.data.toList = ⟨tVoided, 0, endB h.bk k, h.cs⟩ := by
          unfold voidD; rw [HE.out]
          have : (kIx h.bk.vs id).toNat = k := by rw [hkx]; rfl
          rw [← this]
          exact if_neg (by rw [hkx]; omega)
        show DeedP _ _ _ _ _ _ _ _ _
        rw [e1]
        exact ⟨sv', cv, rfl, hA2, hT2'⟩
      rw [show errV 0 = Value.nilIface from rfl]
      clear H3 T3 F3 hA2 hT2 hT2' HA1 HE hk hkx hV
      go_wp2
      go_ret2
      exact HF.out
def tCorrectedB : ByteArray := ⟨#[99, 111, 114, 114, 101, 99, 116, 101, 100]⟩
set_option maxRecDepth 20000 in
set_option maxHeartbeats 8000000 in
theorem corr_deed {w : World} {B ph : Nat} {sv cv : Value} {h : Hs} (a : HsAt w B ph sv cv h) (ho : HsOk h) (hn : h.ls.length ≤ 100000) (hg : Ground B w) (s : ByteArray) (hs : s.size ≤ 1000) :
    Calls Tryz.prog 62 #[.pointer (some ⟨ph, 0, none⟩), .string s] w (DeedP w B ph sv cv h (corrD h.bk h.cs s.data.toList)) := by
  have hbn := ho.n
  have hcl := cut_len s.data.toList
  rw [size_data] at hcl
  have hC := cut_any s w hg.glob.ev.num hs
  rcases he : numO (cutL s.data.toList).1 with _ | id
  · have HD : corrD h.bk h.cs s.data.toList = ddE h.bk h.cs 3 := by unfold corrD; rw [he]
    rw [HD]
    have HP := fun (W : World) (hb : Below w.heap.size w W) => hidN (number_bad (ba (cutL s.data.toList).1) W (hg.below hb).glob.ev.num (by rw [ba_size]; omega) (by rw [ba_data]; exact he))
    have HF : Hid (∀ w', Below w.heap.size w w' → DeedP w B ph sv cv h (ddE h.bk h.cs 3) (.returned (.tuple #[.string ⟨#[]⟩, errV 3])) w') := fun w' hb => deed_none a hb 3
    rw [errV_ne (by decide)] at HP HF
    clear a ho hg he HD hbn hn hcl
    go_enter Tryz.func62, Tryz.ntmps62
    go_wp2_with fail
    refine hC.mono ?_
    rintro x w0 ⟨⟨fb, rfl⟩, nd, hw0⟩
    have hb0 : Below w.heap.size w w0 := by rw [hw0]; exact below_drewN (Below.refl _ _) _
    have hP := (HP w0 hb0).out
    clear hC HP hw0
    go_wp2_with fail
    refine hP.mono ?_
    rintro x w1 ⟨rfl, hb1⟩
    have hF := HF.out _ (hb0.trans (hb1.mono hb0.size))
    clear hP HF
    go_wp2
    go_ret2
    exact hF
  · have HN := fun (W : World) (hb : Below w.heap.size w W) => hidN (number_ok (ba (cutL s.data.toList).1) id W (hg.below hb).glob.ev.num (by rw [ba_size]; omega) (by rw [ba_data]; exact he))
    rcases hx : evOf (cutL s.data.toList).2 with _ | e
    · have HD : corrD h.bk h.cs s.data.toList = ddE h.bk h.cs 3 := by unfold corrD; rw [he, hx]
      rw [HD]
      have HP := fun (W : World) (hb : Below w.heap.size w W) => hidN (happ_bad (ba (cutL s.data.toList).2) W (hg.below hb).glob.ev (by rw [ba_size]; omega) (by rw [ba_data]; exact evOf_none hx))
      have HF : Hid (∀ w', Below w.heap.size w w' → DeedP w B ph sv cv h (ddE h.bk h.cs 3) (.returned (.tuple #[.string ⟨#[]⟩, errV 3])) w') := fun w' hb => deed_none a hb 3
      rw [errV_ne (by decide)] at HP HF
      unfold evV ev0 at HP
      simp only at HP
      clear a ho hg he HD hbn hn hcl hx
      go_enter Tryz.func62, Tryz.ntmps62
      go_wp2_with fail
      refine hC.mono ?_
      rintro x w0 ⟨⟨fb, rfl⟩, nd, hw0⟩
      have hb0 : Below w.heap.size w w0 := by rw [hw0]; exact below_drewN (Below.refl _ _) _
      have hN := (HN w0 hb0).out
      clear hC HN hw0
      go_wp2_with fail
      refine hN.mono ?_
      rintro x w1 ⟨rfl, hb1⟩
      have hB1 := hb0.trans (hb1.mono hb0.size)
      have hP := (HP w1 hB1).out
      clear HP hN
      go_wp2_with fail
      refine hP.mono ?_
      rintro x w2 ⟨rfl, hb2⟩
      have hB2 := hB1.trans (hb2.mono hB1.size)
      have hF := HF.out _ (hB2.alloc hB2.size (.cells #[.int .i64 0, .string ⟨#[]⟩, .int .i64 0, .int .i64 0, .int .i64 0, .int .i64 0, .int .i64 0] 78))
      clear hP HF
      go_wp2
      go_ret2
      exact hF
    · have hR := evOf_some hx
      have hrt := hR.1
      have hew := evW_of hR (by omega)
      have HP := fun (W : World) (hb : Below w.heap.size w W) => hidN (happ_ok (ba (cutL s.data.toList).2) e W (hg.below hb).glob.ev (by rw [ba_size]; omega) (by rw [ba_data]; exact hR))
      have HCO := fun (W : World) (aW : HsAt W B ph sv cv h) => hidN (corr_does aW.bk (ho.inv.ok (by omega)) id e hew)
      have HLT := fun (W : World) (sv' : Value) (h' : Hs) (aW : HsAt W B ph sv' cv h') (hW : GlobE W) (hc : h'.cs.length ≤ 60) => hidN (hlate_any aW hW.len hc e hrt.2.1.1 hrt.2.1.2)
      have HE := hidN he
      have HX := hidN hx
      have HA := hidN a
      have HO := hidN ho
      have HG := hidN hg
      have HRT := hidN hrt
      obtain ⟨eid, item, kind, qty, price, ofI, day⟩ := e
      unfold evV at HP HCO HLT
      simp only at HP HCO HLT
      clear a ho hg he hR hew hrt hx hn hbn
      go_enter Tryz.func62, Tryz.ntmps62
      go_wp2_with fail
      refine hC.mono ?_
      rintro x w0 ⟨⟨fb, rfl⟩, nd, hw0⟩
      have hb0 : Below w.heap.size w w0 := by rw [hw0]; exact below_drewN (Below.refl _ _) _
      have hN := (HN w0 hb0).out
      clear hC HN hw0
      go_wp2_with fail
      refine hN.mono ?_
      rintro x wn ⟨rfl, hbn⟩
      have hBn := hb0.trans (hbn.mono hb0.size)
      have hP := (HP wn hBn).out
      clear HP hN hbn hb0
      go_wp2_with fail
      refine hP.mono ?_
      rintro x w1 ⟨rfl, hb1'⟩
      have hb1 := hBn.trans (hb1'.mono hBn.size)
      obtain ⟨W2, hW2⟩ : ∃ W, W = w1.alloc (.cells #[.int .i64 eid, .string item, .int .i64 kind, .int .i64 qty, .int .i64 price, .int .i64 ofI, .int .i64 day] 78) := ⟨_, rfl⟩
      have hb2 : Below w1.heap.size w1 W2 := by rw [hW2]; exact (Below.refl _ _).alloc (Nat.le_refl _) _
      have hE2 : EvAt W2 w1.heap.size ⟨eid, item, kind, qty, price, ofI, day⟩ := by rw [hW2]; constructor <;> simp
      have hB2 : Below w.heap.size w W2 := hb1.trans (hb2.mono hb1.size)
      have hlt2 : w1.heap.size < W2.heap.size := by rw [hW2]; simp
      have HW2 : Hid (W2 = _) := hW2
      clear hP hW2 hBn hb1'
      go_wp2_with fail
      rw [← HW2.out]
      refine wp_region_turn [(.pure, 0), (.pure, 1), (.pure, 2), (.pure, 3), (.read, 4), (.turn, 5), (.pure, 6)] (by kernel_rfl) (by kernel_rfl) ?_
      obtain ⟨W3, hW3⟩ : ∃ W, W = W2.drew := ⟨_, rfl⟩
      rw [← hW3]
      have hb3 : Below W2.heap.size W2 W3 := by rw [hW3]; exact below_drew _
      have hB3 : Below w.heap.size w W3 := hB2.trans (hb3.mono hB2.size)
      have hA3 := HA.out.below hB3
      have hE3 := hE2.below hb3
      have hPO := (HCO W3 hA3).out
      have HA3 := hidN hA3
      have hU := up_ne
      have hA := anyW_ne
      have f0 := fun n : Up W3 => (hE3.up n).c0
      have f1 := fun n : Up W3 => (hE3.up n).c1
      have f2 := fun n : Up W3 => (hE3.up n).c2
      have f3 := fun n : Up W3 => (hE3.up n).c3
      have f4 := fun n : Up W3 => (hE3.up n).c4
      have f5 := fun n : Up W3 => (hE3.up n).c5
      have f6 := fun n : Up W3 => (hE3.up n).c6
      simp only at f0 f1 f2 f3 f4 f5 f6
      have HE3 := hidN hE3
      have hlt3 : w1.heap.size < W3.heap.size := Nat.lt_of_lt_of_le hlt2 hb3.size
      clear hW3 HW2 hA3 hE2 hE3 HCO hb2 hB2 hb3
      repeat (first | refine turn_p rfl ?_ | refine turn_q rfl ?_); go_big_quiet_step (fail); refine wpQuiet_nil ?_
      clear f0 f1 f2 f3 f4 f5 f6
      refine turn_t rfl ?_
      go_wp2_with fail
      refine hPO.mono ?_
      rintro x w4 ⟨c, b', sv', rfl, hcase, H3, T3, F3⟩
      have HC := hidN hcase
      have HT := hidN (And.intro H3 (And.intro T3 F3))
      clear hcase H3 T3 F3 hPO
      go_wp2_with fail
      refine ⟨rfl, ?_⟩
      repeat (first | refine turn_p rfl ?_ | refine turn_q rfl ?_); go_big_quiet_step (fail); refine wpQuiet_nil ?_
      refine turn_nil ?_
      obtain ⟨H3, T3, F3⟩ := HT.out
      obtain ⟨hA4, hT4⟩ := HA3.out.book H3 T3 F3
      have hT4' : HTurn w w4 ph sv cv sv' cv := (HTurn.of_below hB3).trans hT4
      have HERR : Hid (∀ c0, corrD h.bk h.cs s.data.toList = ddE h.bk h.cs c0 → b' = h.bk → DeedP w B ph sv cv h (corrD h.bk h.cs s.data.toList) (.returned (.tuple #[.string ⟨#[]⟩, errV c0])) w4) := by
        intro c0 e1 e2
        rw [e1]
        rw [e2] at hA4
        exact ⟨sv', cv, rfl, hA4, hT4'⟩
      rcases HC.out with ⟨rfl, hk, rfl⟩ | ⟨hc0, htk, ⟨k, hk⟩, rfl⟩ | ⟨rfl, _, hl, k, hkl, hk, rfl⟩
      · have HF := hidN (HERR.out 7 (by unfold corrD; rw [HE.out, HX.out]; exact if_pos hk) rfl)
        rw [errV_ne (by decide)] at HF ⊢
        clear HT HC HA3 H3 T3 F3 hA4 hT4 hT4' HE HX HERR hk HLT
        go_wp2
        go_ret2
        exact HF.out
      · obtain ⟨rfl, hl⟩ := takes_full HRT.out htk hc0
        have HF := hidN (HERR.out 12 (by unfold corrD; rw [HE.out, HX.out]; simp only; rw [if_neg (by rw [hk]; omega), if_neg hl]) rfl)
        rw [errV_ne (by decide)] at HF ⊢
        clear HT HC HA3 H3 T3 F3 hA4 hT4 hT4' HE HX HERR hk HLT htk
        go_wp2
        go_ret2
        exact HF.out
      · have hE4 : EvAt w4 w1.heap.size ⟨eid, item, kind, qty, price, ofI, day⟩ := by
          have e := T3.block w1.heap.size hlt3 (by have := HA.out.lt; have := hb1.size; omega) (fun e => by have := (HA.out.mine (Or.inr (Or.inl e))).2; have := hb1.size; omega)
          have c (o : Nat) : w4.cell? ⟨w1.heap.size, o, none⟩ = W3.cell? ⟨w1.heap.size, o, none⟩ := World.cell?_of_block (a := ⟨w1.heap.size, o, none⟩) e
          have x := HE3.out
          exact ⟨(c 0).trans x.c0, (c 1).trans x.c1, (c 2).trans x.c2, (c 3).trans x.c3, (c 4).trans x.c4, (c 5).trans x.c5, (c 6).trans x.c6⟩
        rw [show errV 0 = Value.nilIface from rfl]
        have HA4 := hidN hA4
        have HT4 := hidN hT4'
        obtain ⟨t2, ht2⟩ : ∃ t, t = ba (lateT h.cs ⟨eid, item, kind, qty, price, ofI, day⟩) := ⟨_, rfl⟩
        have hz2 : t2.size ≤ 5 := by rw [ht2]; exact late_len _ _
        have HTX : Hid (tCorrectedB ++ t2 = ba (tCorrected ++ lateT h.cs ⟨eid, item, kind, qty, price, ofI, day⟩)) := by
          show _ = _
          rw [ht2, ← ba_app]; rfl
        have HPD : Hid (corrD h.bk h.cs s.data.toList = ⟨tCorrected ++ lateT h.cs ⟨eid, item, kind, qty, price, ofI, day⟩, 0, corrB h.bk k id ⟨eid, item, kind, qty, price, ofI, day⟩, h.cs⟩) := by
          show _ = _
          have : (kIx h.bk.vs id).toNat = k := by rw [hk]; rfl
          unfold corrD; rw [HE.out, HX.out]; simp only
          rw [if_neg (by rw [hk]; omega), if_pos hl, this]
        unfold tCorrectedB at HTX
        have hG5 : GlobE w4 := (HG.out.turn HA.out hT4').glob.ev
        have hL := (HLT w4 sv' _ hA4 hG5 HO.out.cs).out
        rw [← ht2] at hL
        obtain ⟨f0, f1, f2, f3, f4, f5, f6⟩ := hE4
        simp only at f0 f1 f2 f3 f4 f5 f6
        clear HT HC HA3 H3 T3 F3 hA4 hT4 hT4' HE3 HERR hk hl HE HX hG5 HLT ht2
        go_wp2_with fail
        refine hL.mono ?_
        rintro x w7 ⟨rfl, hb7⟩
        have HFIN : Hid (DeedP w B ph sv cv h (corrD h.bk h.cs s.data.toList) (.returned (.tuple #[.string (ba (tCorrected ++ lateT h.cs ⟨eid, item, kind, qty, price, ofI, day⟩)), .nilIface])) w7) := by
          show DeedP _ _ _ _ _ _ _ _ _
          rw [HPD.out]
          exact ⟨sv', cv, rfl, HA4.out.below hb7, HT4.out.trans (HTurn.of_below hb7)⟩
        clear hL hb7 f0 f1 f2 f3 f4 f5 f6
        have e1 := HTX.out
        go_wp2
        go_ret2
        exact HFIN.out
end Go.Proofs.YtdkhohlhdiekmaaGreatDoor
