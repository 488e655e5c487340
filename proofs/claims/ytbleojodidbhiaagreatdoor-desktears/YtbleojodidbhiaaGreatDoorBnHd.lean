/-  -/
import Derived.Test.YtbleojodidbhiaaGreatDoorBnHm
import Derived.Test.YtbleojodidbhiaaGreatDoorBnJr
import Derived.Test.YtbleojodidbhiaaGreatDoorBnLd
import Derived.Test.YtbleojodidbhiaaGreatDoorBnG
import Derived.Deep.DeepCutAuto
import Derived.Test.YtbleojodidbhiaaGreatDoorBnEv
import Derived.FnLit
import Derived.Test.YtbleojodidbhiaaGreatDoorBnJs
namespace Go.Proofs.YtbleojodidbhiaaGreatDoor
open Go.RowKit
def DeedP (w:World) (B ph:Nat) (sv cv:Value) (h:Hs) (d:Dd) (r:Ending) (w':World):Prop:=
 ∃ sv' cv',r = .returned (.tuple #[.string (ba d.told),errV d.c])∧HsAt w' B ph sv' cv' ⟨d.bk,d.cs,h.ls⟩∧HTurn w w' ph sv cv sv' cv'
theorem deed_none {w w':World} {B ph:Nat} {sv cv:Value} {h:Hs} (a:HsAt w B ph sv cv h) (hb:Below w.heap.size w w') (c:Int):DeedP w B ph sv cv h (ddE h.bk h.cs c) (.returned (.tuple #[.string ⟨#[]⟩,errV c])) w':=
 ⟨sv,cv,rfl,a.below hb,HTurn.of_below hb⟩
theorem takes_full {b:Bk} {e:Ev} {c:Int} (hr:Rt e) (h:TakesE b e c) (h0:c ≠ 0):c=12∧¬ b.vs.length < 120:=by
 rcases h with ⟨_,h⟩ | ⟨h,_,h2⟩ | ⟨h,_⟩
 ·exact absurd hr h
 ·exact ⟨h,by omega⟩
 ·exact absurd h h0
theorem late_len (cs:List Cl) (e:Ev):(ba (lateT cs e)).size≤5:=by
 rw [ba_size];unfold lateT;split <;> simp [tLate]
theorem errV_ne {c:Int} (h:c ≠ 0):errV c = .iface 69 (.int .i64 c):=if_neg h
def tPostedB:ByteArray:=⟨#[112,111,115,116,101,100,32]⟩
set_option maxRecDepth 20000 in
set_option maxHeartbeats 8000000 in
theorem post_deed {w:World} {B ph:Nat} {sv cv:Value} {h:Hs} (a:HsAt w B ph sv cv h) (ho:HsOk h) (hn:h.ls.length≤100000) (hg:Ground B w) (s:ByteArray) (hs:s.size≤1000) :
  Calls Tryz.prog 60 #[.pointer (some ⟨ph,0,none⟩),.string s] w (DeedP w B ph sv cv h (postD h.bk h.cs s.data.toList)):=by
 have hbn:=ho.n
 rcases he:evOf s.data.toList with _ | e
 ·have HD:postD h.bk h.cs s.data.toList=ddE h.bk h.cs 3:=by unfold postD;rw [he]
  rw [HD]
  have hP:=happ_bad s w hg.glob.ev hs (evOf_none he)
  have HF:Hid (∀ w',Below w.heap.size w w'→DeedP w B ph sv cv h (ddE h.bk h.cs 3) (.returned (.tuple #[.string ⟨#[]⟩,errV 3])) w'):=fun w' hb=>deed_none a hb 3
  rw [errV_ne (by decide)] at hP HF
  unfold evV ev0 at hP
  simp only at hP
  clear a ho hg he HD hbn hn
  go_enter Tryz.func60,Tryz.ntmps60
  go_wp2_with fail
  refine hP.mono ?_
  rintro x w1 ⟨rfl,hb1⟩
  have hF:=HF.out _ (hb1.alloc hb1.size (.cells #[.int .i64 0,.string ⟨#[]⟩,.int .i64 0,.int .i64 0,.int .i64 0,.int .i64 0,.int .i64 0] 93))
  clear hP HF
  go_wp2
  go_ret2
  exact hF
 ·have hR:=evOf_some he
  have hrt:=hR.1
  have hew:=evW_of hR (by rw [size_data];exact hs)
  have hP:=happ_ok s e w hg.glob.ev hs hR
  have HPO:=fun (W:World) (aW:HsAt W B ph sv cv h)=>hidN (post_does aW.bk (ho.inv.ok (by omega)) e hew)
  have HLT:=fun (W:World) (sv':Value) (h':Hs) (aW:HsAt W B ph sv' cv h') (hW:GlobE W) (hc:h'.cs.length≤60)=>hidN (hlate_any aW hW.len hc e hrt.2.1.1 hrt.2.1.2)
  have HE:=hidN he
  have HA:=hidN a
  have HO:=hidN ho
  have HG:=hidN hg
  have HRT:=hidN hrt
  obtain ⟨id,item,kind,qty,price,ofI,day⟩:=e
  unfold evV at hP HPO HLT
  simp only at hP HPO HLT
  clear a ho hg he hR hew hrt
  go_enter Tryz.func60,Tryz.ntmps60
  go_wp2_with fail
  refine hP.mono ?_
  rintro x w1 ⟨rfl,hb1⟩
  obtain ⟨W2,hW2⟩:∃ W,W=w1.alloc (.cells #[.int .i64 id,.string item,.int .i64 kind,.int .i64 qty,.int .i64 price,.int .i64 ofI,.int .i64 day] 93):=⟨_,rfl⟩
  have hb2:Below w1.heap.size w1 W2:=by rw [hW2];exact (Below.refl _ _).alloc (Nat.le_refl _) _
  have hE2:EvAt W2 w1.heap.size ⟨id,item,kind,qty,price,ofI,day⟩:=by rw [hW2];constructor <;> simp
  have hB2:Below w.heap.size w W2:=hb1.trans (hb2.mono hb1.size)
  have hlt2:w1.heap.size < W2.heap.size:=by rw [hW2];simp
  have hA2:=HA.out.below hB2
  have HW2:Hid (W2=_):=hW2
  clear hP hW2
  go_wp2_with fail
  rw [← HW2.out]
  refine wp_region_turn [(.pure,0),(.pure,1),(.pure,2),(.read,3),(.turn,4),(.pure,5),(.pure,6),(.pure,7),(.pure,8),(.pure,9)] (by kernel_rfl) (by kernel_rfl) ?_
  obtain ⟨W3,hW3⟩:∃ W,W=W2.drew:=⟨_,rfl⟩
  rw [← hW3]
  have hb3:Below W2.heap.size W2 W3:=by rw [hW3];exact below_drew _
  have hB3:Below w.heap.size w W3:=hB2.trans (hb3.mono hB2.size)
  have hA3:=HA.out.below hB3
  have hE3:=hE2.below hb3
  have hPO:=(HPO W3 hA3).out
  have HA3:=hidN hA3
  have hU:=up_ne
  have hA:=anyW_ne
  have f0:=fun n:Up W3=>(hE3.up n).c0
  have f1:=fun n:Up W3=>(hE3.up n).c1
  have f2:=fun n:Up W3=>(hE3.up n).c2
  have f3:=fun n:Up W3=>(hE3.up n).c3
  have f4:=fun n:Up W3=>(hE3.up n).c4
  have f5:=fun n:Up W3=>(hE3.up n).c5
  have f6:=fun n:Up W3=>(hE3.up n).c6
  simp only at f0 f1 f2 f3 f4 f5 f6
  have HE3:=hidN hE3
  have hlt3:w1.heap.size < W3.heap.size:=Nat.lt_of_lt_of_le hlt2 hb3.size
  clear hW3 HW2 hA3 hE2 hE3 hA2 HPO hb2 hB2 hb3
  repeat (first | refine turn_p rfl ?_ | refine turn_q rfl ?_);go_big_quiet_step (fail);refine wpQuiet_nil ?_
  clear f0 f1 f2 f3 f4 f5 f6
  refine turn_t rfl ?_
  go_wp2_with fail
  refine hPO.mono ?_
  rintro x w4 ⟨m,c,b',sv',rfl,hcase,H3,T3,F3⟩
  have HC:=hidN hcase
  have HT:=hidN (And.intro H3 (And.intro T3 F3))
  clear hcase H3 T3 F3 hPO
  go_wp2_with fail
  refine ⟨rfl,?_⟩
  repeat (first | refine turn_p rfl ?_ | refine turn_q rfl ?_);go_big_quiet_step (fail);refine wpQuiet_nil ?_
  refine turn_nil ?_
  obtain ⟨H3,T3,F3⟩:=HT.out
  obtain ⟨hA4,hT4⟩:=HA3.out.book H3 T3 F3
  have hT4':HTurn w w4 ph sv cv sv' cv:=(HTurn.of_below hB3).trans hT4
  rcases HC.out with ⟨rfl,hc0,htk,rfl⟩ | ⟨rfl,rfl,_,hl,rfl⟩
  ·obtain ⟨rfl,hl⟩:=takes_full HRT.out htk hc0
   have HF:Hid (DeedP w B ph sv cv h (postD h.bk h.cs s.data.toList) (.returned (.tuple #[.string ⟨#[]⟩,errV 12])) w4):=by
    have e1:postD h.bk h.cs s.data.toList=ddE h.bk h.cs 12:=by unfold postD;rw [HE.out];exact if_neg hl
    show DeedP _ _ _ _ _ _ _ _ _
    rw [e1]
    exact ⟨sv',cv,rfl,hA4,hT4'⟩
   rw [errV_ne (by decide)] at HF ⊢
   clear HT HC HA3 H3 T3 F3 hA4 hT4 hT4' htk HE
   go_wp2
   go_ret2
   exact HF.out
  ·have hE4:EvAt w4 w1.heap.size ⟨id,item,kind,qty,price,ofI,day⟩:=by
    have e:=T3.block w1.heap.size hlt3 (by have:=HA.out.lt;have:=hb1.size;omega) (fun e=>by have:=(HA.out.mine (Or.inr (Or.inl e))).2;have:=hb1.size;omega)
    have c (o:Nat):w4.cell? ⟨w1.heap.size,o,none⟩=W3.cell? ⟨w1.heap.size,o,none⟩:=World.cell?_of_block (a:=⟨w1.heap.size,o,none⟩) e
    have x:=HE3.out
    exact ⟨(c 0).trans x.c0,(c 1).trans x.c1,(c 2).trans x.c2,(c 3).trans x.c3,(c 4).trans x.c4,(c 5).trans x.c5,(c 6).trans x.c6⟩
   rw [show errV 0=Value.nilIface from rfl]
   have HA4:=hidN hA4
   have HT4:=hidN hT4'
   have HE4:=hidN hE4
   clear HT HC HA3 H3 T3 F3 hA4 hT4 hT4' hE4 HE3
   have hg0:=HO.out.inv.g0
   have hgn:=HO.out.inv.gn
   obtain ⟨t1,ht1⟩:∃ t,t=eb (Lib.itoa (h.bk.g + 1)):=⟨_,rfl⟩
   have hz1:t1.size≤20:=by rw [ht1];exact itoa_size _ (by omega) (by omega)
   obtain ⟨t2,ht2⟩:∃ t,t=ba (lateT h.cs ⟨id,item,kind,qty,price,ofI,day⟩):=⟨_,rfl⟩
   have hz2:t2.size≤5:=by rw [ht2];exact late_len _ _
   have HTX:Hid (tPostedB ++ t1 ++ t2=ba (tPosted ++ Lib.itoa (h.bk.g + 1) ++ lateT h.cs ⟨id,item,kind,qty,price,ofI,day⟩)):=by
    show _=_
    rw [ht1,ht2,← ba_app,← ba_app];rfl
   have HPD:Hid (postD h.bk h.cs s.data.toList=⟨tPosted ++ Lib.itoa (h.bk.g + 1) ++ lateT h.cs ⟨id,item,kind,qty,price,ofI,day⟩,0,postB h.bk ⟨id,item,kind,qty,price,ofI,day⟩,h.cs⟩):=by
    show _=_
    unfold postD;rw [HE.out];exact if_pos hl
   unfold tPostedB at HTX
   go_wp2_with fail
   refine wp_region_turn [(.pure,0),(.pure,3),(.read,4),(.make,1),(.pure,2),(.make,5),(.pure,6),(.pure,7),(.pure,8)] (by kernel_rfl) (by kernel_rfl) ?_
   obtain ⟨W5,hW5⟩:∃ W,W=w4.drew:=⟨_,rfl⟩
   rw [← hW5]
   have hb5:Below w4.heap.size w4 W5:=by rw [hW5];exact below_drew _
   have hE5:=HE4.out.below hb5
   have hA5:=HA4.out.below hb5
   have hT5:HTurn w W5 ph sv cv sv' cv:=HT4.out.trans (HTurn.of_below hb5)
   have hG5:GlobE W5:=(HG.out.turn HA.out hT5).glob.ev
   have hI:=itoaN (h.bk.g + 1) W5 hG5.num (by omega) (by omega)
   rw [← ht1] at hI
   have f0:=fun n:Up W5=>(hE5.up n).c0
   have f1:=fun n:Up W5=>(hE5.up n).c1
   have f2:=fun n:Up W5=>(hE5.up n).c2
   have f3:=fun n:Up W5=>(hE5.up n).c3
   have f4:=fun n:Up W5=>(hE5.up n).c4
   have f5:=fun n:Up W5=>(hE5.up n).c5
   have f6:=fun n:Up W5=>(hE5.up n).c6
   simp only at f0 f1 f2 f3 f4 f5 f6
   have HA5:=hidN hA5
   have HT5:=hidN hT5
   have HG5:=hidN hG5
   have HT2:=hidN ht2
   clear hW5 hE5 hA5 hT5 hG5 HA4 HT4 HE4 hb5 ht1 ht2
   repeat (first | refine turn_p rfl ?_ | refine turn_q rfl ?_);go_big_quiet_step (fail);refine wpQuiet_nil ?_
   clear f0 f1 f2 f3 f4 f5 f6
   refine turn_n rfl ?_
   go_wp2_with fail
   refine hI.mono ?_
   rintro x w6 ⟨rfl,hb6⟩
   have hL:=(HLT w6 sv' _ (HA5.out.below hb6) (HG5.out.below hb6) HO.out.cs).out
   rw [← HT2.out] at hL
   have HB6:=hidN hb6
   clear hI hb6 HLT
   go_wp2_with fail
   refine ⟨rfl,HB6.out,?_⟩
   repeat (first | refine turn_p rfl ?_ | refine turn_q rfl ?_);go_big_quiet_step (fail);refine wpQuiet_nil ?_
   refine turn_n rfl ?_
   go_wp2_with fail
   refine hL.mono ?_
   rintro x w7 ⟨rfl,hb7⟩
   have HB7:=hidN hb7
   have HFIN:Hid (DeedP w B ph sv cv h (postD h.bk h.cs s.data.toList) (.returned (.tuple #[.string (ba (tPosted ++ Lib.itoa (h.bk.g + 1) ++ lateT h.cs ⟨id,item,kind,qty,price,ofI,day⟩)),.nilIface])) w7):=by
    show DeedP _ _ _ _ _ _ _ _ _
    rw [HPD.out]
    have hb67:Below w6.heap.size w6 w7:=hb7
    exact ⟨sv',cv,rfl,(HA5.out.below HB6.out).below hb67,(HT5.out.trans (HTurn.of_below HB6.out)).trans (HTurn.of_below hb67)⟩
   clear hL hb7
   go_wp2_with fail
   refine ⟨rfl,HB7.out,?_⟩
   repeat (first | refine turn_p rfl ?_ | refine turn_q rfl ?_);go_big_quiet_step (fail);refine wpQuiet_nil ?_
   refine turn_nil ?_
   have e1:=HTX.out
   go_wp2
   go_ret2
   rw [e1]
   exact HFIN.out
theorem refuse_deed {w:World} {B ph:Nat} {sv cv:Value} {h:Hs} (a:HsAt w B ph sv cv h) (s:ByteArray) :
  Calls Tryz.prog 64 #[.pointer (some ⟨ph,0,none⟩),.string s] w (DeedP w B ph sv cv h (ddE h.bk h.cs 3)):=by
 have HF:Hid (DeedP w B ph sv cv h (ddE h.bk h.cs 3) (.returned (.tuple #[.string ⟨#[]⟩,errV 3])) w):=deed_none a (Below.refl _ _) 3
 rw [errV_ne (by decide)] at HF
 clear a
 go_enter Tryz.func64,Tryz.ntmps64
 go_wp2
 go_ret2
 exact HF.out
set_option maxRecDepth 20000 in
set_option maxHeartbeats 8000000 in
theorem void_deed {w:World} {B ph:Nat} {sv cv:Value} {h:Hs} (a:HsAt w B ph sv cv h) (ho:HsOk h) (hn:h.ls.length≤100000) (hg:Ground B w) (s:ByteArray) (hs:s.size≤1000) :
  Calls Tryz.prog 62 #[.pointer (some ⟨ph,0,none⟩),.string s] w (DeedP w B ph sv cv h (voidD h.bk h.cs s.data.toList)):=by
 have hbn:=ho.n
 rcases he:numO s.data.toList with _ | id
 ·have HD:voidD h.bk h.cs s.data.toList=ddE h.bk h.cs 3:=by unfold voidD;rw [he]
  rw [HD]
  have hP:=number_bad s w hg.glob.ev.num hs he
  have HF:Hid (∀ w',Below w.heap.size w w'→DeedP w B ph sv cv h (ddE h.bk h.cs 3) (.returned (.tuple #[.string ⟨#[]⟩,errV 3])) w'):=fun w' hb=>deed_none a hb 3
  rw [errV_ne (by decide)] at hP HF
  clear a ho hg he HD hbn hn
  go_enter Tryz.func62,Tryz.ntmps62
  go_wp2_with fail
  refine hP.mono ?_
  rintro x w1 ⟨rfl,hb1⟩
  have hF:=HF.out _ hb1
  clear hP HF
  go_wp2
  go_ret2
  exact hF
 ·have hP:=number_ok s id w hg.glob.ev.num hs he
  have HV:=fun (W:World) (aW:HsAt W B ph sv cv h)=>hidN (void_does aW.bk (ho.inv.ok (by omega)) id)
  have HE:=hidN he
  have HA:=hidN a
  clear a ho hg he hbn hn
  go_enter Tryz.func62,Tryz.ntmps62
  go_wp2_with fail
  refine hP.mono ?_
  rintro x w1 ⟨rfl,hb1⟩
  have hA1:=HA.out.below hb1
  have hV:=(HV w1 hA1).out
  have HA1:=hidN hA1
  clear hP HV hA1
  go_wp2_with fail
  refine hV.mono ?_
  rintro x w2 ⟨c,b',sv',rfl,hcase,H3,T3,F3⟩
  obtain ⟨hA2,hT2⟩:=HA1.out.book H3 T3 F3
  have hT2':HTurn w w2 ph sv cv sv' cv:=(HTurn.of_below hb1).trans hT2
  rcases hcase with ⟨rfl,hk,rfl⟩ | ⟨rfl,k,hk,hkx,rfl⟩
  ·have HF:Hid (DeedP w B ph sv cv h (voidD h.bk h.cs s.data.toList) (.returned (.tuple #[.string ⟨#[]⟩,errV 7])) w2):=by
    have e1:voidD h.bk h.cs s.data.toList=ddE h.bk h.cs 7:=by unfold voidD;rw [HE.out];exact if_pos hk
    show DeedP _ _ _ _ _ _ _ _ _
    rw [e1]
    exact ⟨sv',cv,rfl,hA2,hT2'⟩
   rw [errV_ne (by decide)] at HF ⊢
   clear H3 T3 F3 hA2 hT2 hT2' HA1 HE hk hV
   go_wp2
   go_ret2
   exact HF.out
  ·have HF:Hid (DeedP w B ph sv cv h (voidD h.bk h.cs s.data.toList) (.returned (.tuple #[.string (ba tVoided),.nilIface])) w2):=by
    have e1:voidD h.bk h.cs s.data.toList=⟨tVoided,0,endB h.bk k,h.cs⟩:=by
     unfold voidD;rw [HE.out]
     have:(kIx h.bk.vs id).toNat=k:=by rw [hkx];rfl
     rw [← this]
     exact if_neg (by rw [hkx];omega)
    show DeedP _ _ _ _ _ _ _ _ _
    rw [e1]
    exact ⟨sv',cv,rfl,hA2,hT2'⟩
   rw [show errV 0=Value.nilIface from rfl]
   clear H3 T3 F3 hA2 hT2 hT2' HA1 HE hk hkx hV
   go_wp2
   go_ret2
   exact HF.out
def tCorrectedB:ByteArray:=⟨#[99,111,114,114,101,99,116,101,100]⟩
set_option maxRecDepth 20000 in
set_option maxHeartbeats 8000000 in
theorem corr_deed {w:World} {B ph:Nat} {sv cv:Value} {h:Hs} (a:HsAt w B ph sv cv h) (ho:HsOk h) (hn:h.ls.length≤100000) (hg:Ground B w) (s:ByteArray) (hs:s.size≤1000) :
  Calls Tryz.prog 61 #[.pointer (some ⟨ph,0,none⟩),.string s] w (DeedP w B ph sv cv h (corrD h.bk h.cs s.data.toList)):=by
 have hbn:=ho.n
 have hcl:=cut_len s.data.toList
 rw [size_data] at hcl
 have hC:=cut_any s w hg.glob.ev.num hs
 rcases he:numO (cutL s.data.toList).1 with _ | id
 ·have HD:corrD h.bk h.cs s.data.toList=ddE h.bk h.cs 3:=by unfold corrD;rw [he]
  rw [HD]
  have HP:=fun (W:World) (hb:Below w.heap.size w W)=>hidN (number_bad (ba (cutL s.data.toList).1) W (hg.below hb).glob.ev.num (by rw [ba_size];omega) (by rw [ba_data];exact he))
  have HF:Hid (∀ w',Below w.heap.size w w'→DeedP w B ph sv cv h (ddE h.bk h.cs 3) (.returned (.tuple #[.string ⟨#[]⟩,errV 3])) w'):=fun w' hb=>deed_none a hb 3
  rw [errV_ne (by decide)] at HP HF
  clear a ho hg he HD hbn hn hcl
  go_enter Tryz.func61,Tryz.ntmps61
  go_wp2_with fail
  refine hC.mono ?_
  rintro x w0 ⟨⟨fb,rfl⟩,nd,hw0⟩
  have hb0:Below w.heap.size w w0:=by rw [hw0];exact below_drewN (Below.refl _ _) _
  have hP:=(HP w0 hb0).out
  clear hC HP hw0
  go_wp2_with fail
  refine hP.mono ?_
  rintro x w1 ⟨rfl,hb1⟩
  have hF:=HF.out _ (hb0.trans (hb1.mono hb0.size))
  clear hP HF
  go_wp2
  go_ret2
  exact hF
 ·have HN:=fun (W:World) (hb:Below w.heap.size w W)=>hidN (number_ok (ba (cutL s.data.toList).1) id W (hg.below hb).glob.ev.num (by rw [ba_size];omega) (by rw [ba_data];exact he))
  rcases hx:evOf (cutL s.data.toList).2 with _ | e
  ·have HD:corrD h.bk h.cs s.data.toList=ddE h.bk h.cs 3:=by unfold corrD;rw [he,hx]
   rw [HD]
   have HP:=fun (W:World) (hb:Below w.heap.size w W)=>hidN (happ_bad (ba (cutL s.data.toList).2) W (hg.below hb).glob.ev (by rw [ba_size];omega) (by rw [ba_data];exact evOf_none hx))
   have HF:Hid (∀ w',Below w.heap.size w w'→DeedP w B ph sv cv h (ddE h.bk h.cs 3) (.returned (.tuple #[.string ⟨#[]⟩,errV 3])) w'):=fun w' hb=>deed_none a hb 3
   rw [errV_ne (by decide)] at HP HF
   unfold evV ev0 at HP
   simp only at HP
   clear a ho hg he HD hbn hn hcl hx
   go_enter Tryz.func61,Tryz.ntmps61
   go_wp2_with fail
   refine hC.mono ?_
   rintro x w0 ⟨⟨fb,rfl⟩,nd,hw0⟩
   have hb0:Below w.heap.size w w0:=by rw [hw0];exact below_drewN (Below.refl _ _) _
   have hN:=(HN w0 hb0).out
   clear hC HN hw0
   go_wp2_with fail
   refine hN.mono ?_
   rintro x w1 ⟨rfl,hb1⟩
   have hB1:=hb0.trans (hb1.mono hb0.size)
   have hP:=(HP w1 hB1).out
   clear HP hN
   go_wp2_with fail
   refine hP.mono ?_
   rintro x w2 ⟨rfl,hb2⟩
   have hB2:=hB1.trans (hb2.mono hB1.size)
   have hF:=HF.out _ (hB2.alloc hB2.size (.cells #[.int .i64 0,.string ⟨#[]⟩,.int .i64 0,.int .i64 0,.int .i64 0,.int .i64 0,.int .i64 0] 93))
   clear hP HF
   go_wp2
   go_ret2
   exact hF
  ·have hR:=evOf_some hx
   have hrt:=hR.1
   have hew:=evW_of hR (by omega)
   have HP:=fun (W:World) (hb:Below w.heap.size w W)=>hidN (happ_ok (ba (cutL s.data.toList).2) e W (hg.below hb).glob.ev (by rw [ba_size];omega) (by rw [ba_data];exact hR))
   have HCO:=fun (W:World) (aW:HsAt W B ph sv cv h)=>hidN (corr_does aW.bk (ho.inv.ok (by omega)) id e hew)
   have HLT:=fun (W:World) (sv':Value) (h':Hs) (aW:HsAt W B ph sv' cv h') (hW:GlobE W) (hc:h'.cs.length≤60)=>hidN (hlate_any aW hW.len hc e hrt.2.1.1 hrt.2.1.2)
   have HE:=hidN he
   have HX:=hidN hx
   have HA:=hidN a
   have HO:=hidN ho
   have HG:=hidN hg
   have HRT:=hidN hrt
   obtain ⟨eid,item,kind,qty,price,ofI,day⟩:=e
   unfold evV at HP HCO HLT
   simp only at HP HCO HLT
   clear a ho hg he hR hew hrt hx hn hbn
   go_enter Tryz.func61,Tryz.ntmps61
   go_wp2_with fail
   refine hC.mono ?_
   rintro x w0 ⟨⟨fb,rfl⟩,nd,hw0⟩
   have hb0:Below w.heap.size w w0:=by rw [hw0];exact below_drewN (Below.refl _ _) _
   have hN:=(HN w0 hb0).out
   clear hC HN hw0
   go_wp2_with fail
   refine hN.mono ?_
   rintro x wn ⟨rfl,hbn⟩
   have hBn:=hb0.trans (hbn.mono hb0.size)
   have hP:=(HP wn hBn).out
   clear HP hN hbn hb0
   go_wp2_with fail
   refine hP.mono ?_
   rintro x w1 ⟨rfl,hb1'⟩
   have hb1:=hBn.trans (hb1'.mono hBn.size)
   obtain ⟨W2,hW2⟩:∃ W,W=w1.alloc (.cells #[.int .i64 eid,.string item,.int .i64 kind,.int .i64 qty,.int .i64 price,.int .i64 ofI,.int .i64 day] 93):=⟨_,rfl⟩
   have hb2:Below w1.heap.size w1 W2:=by rw [hW2];exact (Below.refl _ _).alloc (Nat.le_refl _) _
   have hE2:EvAt W2 w1.heap.size ⟨eid,item,kind,qty,price,ofI,day⟩:=by rw [hW2];constructor <;> simp
   have hB2:Below w.heap.size w W2:=hb1.trans (hb2.mono hb1.size)
   have hlt2:w1.heap.size < W2.heap.size:=by rw [hW2];simp
   have HW2:Hid (W2=_):=hW2
   clear hP hW2 hBn hb1'
   go_wp2_with fail
   rw [← HW2.out]
   refine wp_region_turn [(.pure,0),(.pure,1),(.pure,2),(.pure,3),(.read,4),(.turn,5),(.pure,6)] (by kernel_rfl) (by kernel_rfl) ?_
   obtain ⟨W3,hW3⟩:∃ W,W=W2.drew:=⟨_,rfl⟩
   rw [← hW3]
   have hb3:Below W2.heap.size W2 W3:=by rw [hW3];exact below_drew _
   have hB3:Below w.heap.size w W3:=hB2.trans (hb3.mono hB2.size)
   have hA3:=HA.out.below hB3
   have hE3:=hE2.below hb3
   have hPO:=(HCO W3 hA3).out
   have HA3:=hidN hA3
   have hU:=up_ne
   have hA:=anyW_ne
   have f0:=fun n:Up W3=>(hE3.up n).c0
   have f1:=fun n:Up W3=>(hE3.up n).c1
   have f2:=fun n:Up W3=>(hE3.up n).c2
   have f3:=fun n:Up W3=>(hE3.up n).c3
   have f4:=fun n:Up W3=>(hE3.up n).c4
   have f5:=fun n:Up W3=>(hE3.up n).c5
   have f6:=fun n:Up W3=>(hE3.up n).c6
   simp only at f0 f1 f2 f3 f4 f5 f6
   have HE3:=hidN hE3
   have hlt3:w1.heap.size < W3.heap.size:=Nat.lt_of_lt_of_le hlt2 hb3.size
   clear hW3 HW2 hA3 hE2 hE3 HCO hb2 hB2 hb3
   repeat (first | refine turn_p rfl ?_ | refine turn_q rfl ?_);go_big_quiet_step (fail);refine wpQuiet_nil ?_
   clear f0 f1 f2 f3 f4 f5 f6
   refine turn_t rfl ?_
   go_wp2_with fail
   refine hPO.mono ?_
   rintro x w4 ⟨c,b',sv',rfl,hcase,H3,T3,F3⟩
   have HC:=hidN hcase
   have HT:=hidN (And.intro H3 (And.intro T3 F3))
   clear hcase H3 T3 F3 hPO
   go_wp2_with fail
   refine ⟨rfl,?_⟩
   repeat (first | refine turn_p rfl ?_ | refine turn_q rfl ?_);go_big_quiet_step (fail);refine wpQuiet_nil ?_
   refine turn_nil ?_
   obtain ⟨H3,T3,F3⟩:=HT.out
   obtain ⟨hA4,hT4⟩:=HA3.out.book H3 T3 F3
   have hT4':HTurn w w4 ph sv cv sv' cv:=(HTurn.of_below hB3).trans hT4
   have HERR:Hid (∀ c0,corrD h.bk h.cs s.data.toList=ddE h.bk h.cs c0→b'=h.bk→DeedP w B ph sv cv h (corrD h.bk h.cs s.data.toList) (.returned (.tuple #[.string ⟨#[]⟩,errV c0])) w4):=by
    intro c0 e1 e2
    rw [e1]
    rw [e2] at hA4
    exact ⟨sv',cv,rfl,hA4,hT4'⟩
   rcases HC.out with ⟨rfl,hk,rfl⟩ | ⟨hc0,htk,⟨k,hk⟩,rfl⟩ | ⟨rfl,_,hl,k,hkl,hk,rfl⟩
   ·have HF:=hidN (HERR.out 7 (by unfold corrD;rw [HE.out,HX.out];exact if_pos hk) rfl)
    rw [errV_ne (by decide)] at HF ⊢
    clear HT HC HA3 H3 T3 F3 hA4 hT4 hT4' HE HX HERR hk HLT
    go_wp2
    go_ret2
    exact HF.out
   ·obtain ⟨rfl,hl⟩:=takes_full HRT.out htk hc0
    have HF:=hidN (HERR.out 12 (by unfold corrD;rw [HE.out,HX.out];simp only;rw [if_neg (by rw [hk];omega),if_neg hl]) rfl)
    rw [errV_ne (by decide)] at HF ⊢
    clear HT HC HA3 H3 T3 F3 hA4 hT4 hT4' HE HX HERR hk HLT htk
    go_wp2
    go_ret2
    exact HF.out
   ·have hE4:EvAt w4 w1.heap.size ⟨eid,item,kind,qty,price,ofI,day⟩:=by
     have e:=T3.block w1.heap.size hlt3 (by have:=HA.out.lt;have:=hb1.size;omega) (fun e=>by have:=(HA.out.mine (Or.inr (Or.inl e))).2;have:=hb1.size;omega)
     have c (o:Nat):w4.cell? ⟨w1.heap.size,o,none⟩=W3.cell? ⟨w1.heap.size,o,none⟩:=World.cell?_of_block (a:=⟨w1.heap.size,o,none⟩) e
     have x:=HE3.out
     exact ⟨(c 0).trans x.c0,(c 1).trans x.c1,(c 2).trans x.c2,(c 3).trans x.c3,(c 4).trans x.c4,(c 5).trans x.c5,(c 6).trans x.c6⟩
    rw [show errV 0=Value.nilIface from rfl]
    have HA4:=hidN hA4
    have HT4:=hidN hT4'
    obtain ⟨t2,ht2⟩:∃ t,t=ba (lateT h.cs ⟨eid,item,kind,qty,price,ofI,day⟩):=⟨_,rfl⟩
    have hz2:t2.size≤5:=by rw [ht2];exact late_len _ _
    have HTX:Hid (tCorrectedB ++ t2=ba (tCorrected ++ lateT h.cs ⟨eid,item,kind,qty,price,ofI,day⟩)):=by
     show _=_
     rw [ht2,← ba_app];rfl
    have HPD:Hid (corrD h.bk h.cs s.data.toList=⟨tCorrected ++ lateT h.cs ⟨eid,item,kind,qty,price,ofI,day⟩,0,corrB h.bk k id ⟨eid,item,kind,qty,price,ofI,day⟩,h.cs⟩):=by
     show _=_
     have:(kIx h.bk.vs id).toNat=k:=by rw [hk];rfl
     unfold corrD;rw [HE.out,HX.out];simp only
     rw [if_neg (by rw [hk];omega),if_pos hl,this]
    unfold tCorrectedB at HTX
    have hG5:GlobE w4:=(HG.out.turn HA.out hT4').glob.ev
    have hL:=(HLT w4 sv' _ hA4 hG5 HO.out.cs).out
    rw [← ht2] at hL
    obtain ⟨f0,f1,f2,f3,f4,f5,f6⟩:=hE4
    simp only at f0 f1 f2 f3 f4 f5 f6
    clear HT HC HA3 H3 T3 F3 hA4 hT4 hT4' HE3 HERR hk hl HE HX hG5 HLT ht2
    go_wp2_with fail
    refine hL.mono ?_
    rintro x w7 ⟨rfl,hb7⟩
    have HFIN:Hid (DeedP w B ph sv cv h (corrD h.bk h.cs s.data.toList) (.returned (.tuple #[.string (ba (tCorrected ++ lateT h.cs ⟨eid,item,kind,qty,price,ofI,day⟩)),.nilIface])) w7):=by
     show DeedP _ _ _ _ _ _ _ _ _
     rw [HPD.out]
     exact ⟨sv',cv,rfl,HA4.out.below hb7,HT4.out.trans (HTurn.of_below hb7)⟩
    clear hL hb7 f0 f1 f2 f3 f4 f5 f6
    have e1:=HTX.out
    go_wp2
    go_ret2
    exact HFIN.out
def tClosedB:ByteArray:=⟨#[99,108,111,115,101,100,32]⟩
theorem close_is {b:Bk} {cs cs':List Cl} {rest:List UInt8} {n c:Int} {F:Fig} (hd:dparsed (rest ++ [45,48,49])=some n) (h:DoesC b cs (dK n:Int) c F cs') :
  (closeD b cs rest=ddE b cs c∧(c=10∨c=12)∧cs'=cs)∨(c=0∧closeD b cs rest=⟨tClosed ++ Lib.itoa (postL F).length,0,b,cs'⟩):=by
 have hn:=dparsed_some hd
 have hk:=dK_le hn.2.1 hn.2.2.1
 unfold closeD
 rw [hd]
 simp only
 rcases h with ⟨h1,_⟩ | ⟨_,h2,rfl,rfl,rfl⟩ | ⟨_,h2,h3,rfl,rfl,rfl⟩ | ⟨_,h2,h3,rfl,rfl,rfl⟩
 ·omega
 ·left;rw [if_pos h2];exact ⟨rfl,Or.inl rfl,rfl⟩
 ·left;rw [if_neg (by rw [h2];decide),if_pos h3];exact ⟨rfl,Or.inr rfl,rfl⟩
 ·right;rw [if_neg (by rw [h2];decide),if_neg (by omega)];exact ⟨rfl,rfl⟩
def CloP (w:World) (B ph:Nat) (sv cv:Value) (h:Hs) (n:Int) (s7 s8:Value) (wx:World):Prop:=
 ∃ fb F c cs' cv',s7=errV c∧s8 = .pointer (some ⟨fb,0,none⟩)∧FigAt wx fb F∧DoesC h.bk h.cs (dK n:Int) c F cs'∧HsAt wx B ph sv cv' ⟨h.bk,cs',h.ls⟩∧HTurn w wx ph sv cv sv cv'
theorem clo_put {w wx:World} {B ph fb:Nat} {sv cv cv':Value} {h:Hs} {n c:Int} {F F0:Fig} {cs':List Cl} (hf:FigAt wx fb F0) (hn:¬ Mine ph sv cv' fb) (hw:w.heap.size≤fb) (hd:DoesC h.bk h.cs (dK n:Int) c F cs') (a:HsAt wx B ph sv cv' ⟨h.bk,cs',h.ls⟩) (t:HTurn w wx ph sv cv sv cv') :
  CloP w B ph sv cv h n (errV c) (.pointer (some ⟨fb,0,none⟩)) (set5 wx fb F):=
 ⟨fb,F,c,cs',cv',rfl,rfl,hf.put F,hd,a.same fun k hk=>set5_other _ _ _ (fun e=>hn (e ▸ hk)),
  ⟨(set5_oth _ _ _).1.trans t.os,(set5_oth _ _ _).2.1.trans t.tape,(set5_oth _ _ _).2.2.trans t.output,by rw [set5_size];exact t.size,fun k hk hm=>(set5_other _ _ _ (by omega)).trans (t.block k hk hm),t.fresh⟩⟩
set_option maxRecDepth 20000 in
set_option maxHeartbeats 8000000 in
theorem close_deed {w:World} {B ph:Nat} {sv cv:Value} {h:Hs} (a:HsAt w B ph sv cv h) (ho:HsOk h) (_hn:h.ls.length≤100000) (hg:Ground B w) (s:ByteArray) (hs:s.size≤1000) :
  Calls Tryz.prog 63 #[.pointer (some ⟨ph,0,none⟩),.string s] w (DeedP w B ph sv cv h (closeD h.bk h.cs s.data.toList)):=by
 have hbn:=ho.n
 rcases he:dparsed (s.data.toList ++ [45,48,49]) with _ | n
 ·have HD:closeD h.bk h.cs s.data.toList=ddE h.bk h.cs 3:=by unfold closeD;rw [he]
  rw [HD]
  have hP:=month_bad s w hg.glob.ev.len hs he
  have HF:Hid (∀ w',Below w.heap.size w w'→DeedP w B ph sv cv h (ddE h.bk h.cs 3) (.returned (.tuple #[.string ⟨#[]⟩,errV 3])) w'):=fun w' hb=>deed_none a hb 3
  rw [errV_ne (by decide)] at hP HF
  clear a ho hg he HD hbn
  go_enter Tryz.func63,Tryz.ntmps63
  go_wp2_with fail
  refine hP.mono ?_
  rintro x w1 ⟨rfl,hb1⟩
  have hF:=HF.out _ hb1
  clear hP HF
  go_wp2
  go_ret2
  exact hF
 ·have hP:=month_ok s n w hg.glob.ev.len hs he
  have HCL:=fun (W:World) (aW:HsAt W B ph sv cv h) (gW:Ground B W)=>hidN (close_any aW.pr aW.bk ho.inv gW.glob.ev.len (by have:=ho.cs;omega) (dK n:Int))
  have HE:=hidN he
  have HA:=hidN a
  have HO:=hidN ho
  have HG:=hidN hg
  clear a ho hg he hbn
  go_enter Tryz.func63,Tryz.ntmps63
  go_wp2_with fail
  refine hP.mono ?_
  rintro x w1 ⟨rfl,hb1⟩
  clear hP
  go_upto_region 4 with fail
  go_cut [7,8] (fun s7 s8 wx=>CloP w B ph sv cv h n s7 s8 wx)
  case first=>
   go_wp2_with fail
   refine wp_region_preG (fun _ _=>True) [(false,0),(false,1),(false,2),(false,3),(false,4),(false,5),(false,6)] [] 7 (fun _=>trivial) (fun _ _ _ _ _=>trivial) (by kernel_rfl) (by kernel_rfl) ?_
   have hA:=anyW_ne
   obtain ⟨W2,hW2⟩:∃ W,W=w1.drew:=⟨_,rfl⟩
   rw [← hW2]
   have hb2:Below w.heap.size w W2:=by rw [hW2];exact hb1.trans ((below_drew _).mono hb1.size)
   clear hW2
   repeat (refine preG_p rfl ?_;go_big_quiet_step (fail);refine wpQuiet_nil ?_)
   refine preG_nil ?_
   refine anyG_all [7,11] (by kernel_rfl) ?_
   intro i hi2
   have hi3:i=7∨i=11:=by simpa using hi2
   clear hi2
   rcases hi3 with rfl | rfl
   ·have hC:=(HCL W2 (HA.out.below hb2) (HG.out.below hb2)).out
    refine eOpG_keep rfl ?_
    go_wp2_with fail
    refine hC.mono ?_
    rintro x w3 ⟨F,c,cs',cv',rfl,hd,P3,T3,F3⟩
    obtain ⟨hA3,hT3⟩:=(HA.out.below hb2).closes P3 T3 F3
    have hT3':HTurn w w3 ph sv cv sv cv':=(HTurn.of_below hb2).trans hT3
    have HD:=hidN hd
    have HA3:=hidN hA3
    have HT3:=hidN hT3'
    clear hC hd P3 T3 F3 hA3 hT3 hT3' HCL
    go_wp2_with fail
    refine ⟨rfl,trivial,?_⟩
    refine wpAnyG_pre (fun _=>trivial) (fun _ _ _ _ _=>trivial) (by kernel_rfl) 3 [(false,8),(false,9),(false,10)] _ _ _ (by kernel_rfl) ?_
    obtain ⟨F1,F2,F3,F4,F5⟩:=F
    unfold figV
    simp only
    repeat (refine preG_p rfl ?_;go_big_quiet_step (fail);refine wpQuiet_nil ?_)
    refine preG_nil ?_
    refine anyG_all [11] (by kernel_rfl) ?_
    intro i hi2
    obtain rfl:i=11:=by simpa using hi2
    clear hi2
    refine eOpG_keep rfl ?_
    go_wp2_with fail
    refine ⟨rfl,trivial,?_⟩
    refine anyG_all [12] (by kernel_rfl) ?_
    intro i hi2
    obtain rfl:i=12:=by simpa using hi2
    clear hi2
    obtain ⟨W4,hW4⟩:∃ W,W=w3.alloc (.cells #[.int .i64 0,.int .i64 0,.int .i64 0,.int .i64 0,.int .i64 0] 151):=⟨_,rfl⟩
    rw [← hW4]
    have hb4:Below w3.heap.size w3 W4:=by rw [hW4];exact (Below.refl _ _).alloc (Nat.le_refl _) _
    have hF4:FigAt W4 w3.heap.size fig0:=by rw [hW4];exact fig_new w3
    have HP:Hid (CloP w B ph sv cv h n (errV c) (.pointer (some ⟨w3.heap.size,0,none⟩)) (set5 W4 w3.heap.size ⟨F1,F2,F3,F4,F5⟩)):=
     clo_put hF4 (fun hm=>by have:=(HA3.out.mine hm).2;omega) HT3.out.size HD.out (HA3.out.below hb4) (HT3.out.trans (HTurn.of_below hb4))
    obtain ⟨d0,d1,d2,d3,d4,e0,e1,e2,e3,e4⟩:=hF4
    simp only [fig0] at d0 d1 d2 d3 d4
    clear hW4 hb4 HD HA3 HT3
    refine eOpG_keep rfl ?_
    go_wp2_with fail
    refine ⟨rfl,trivial,?_⟩
    refine wpAnyG_pre (fun _=>trivial) (fun _ _ _ _ _=>trivial) (by kernel_rfl) 0 [(false,13)] _ _ _ (by kernel_rfl) ?_
    repeat (refine preG_p rfl ?_;go_big_quiet_step (fail);refine wpQuiet_nil ?_)
    refine preG_nil ?_
    refine anyG_nil (by kernel_rfl) ?_
    go_wp2
    go_meet
    case rel=>exact HP.out
   ·refine eOpG_keep rfl ?_
    go_wp2_with fail
    refine ⟨rfl,trivial,?_⟩
    obtain ⟨W4,hW4⟩:∃ W,W=W2.alloc (.cells #[.int .i64 0,.int .i64 0,.int .i64 0,.int .i64 0,.int .i64 0] 151):=⟨_,rfl⟩
    rw [← hW4]
    have hb4':Below W2.heap.size W2 W4:=by rw [hW4];exact (Below.refl _ _).alloc (Nat.le_refl _) _
    have hb4:Below w.heap.size w W4:=hb2.trans (hb4'.mono hb2.size)
    have hF4:FigAt W4 W2.heap.size fig0:=by rw [hW4];exact fig_new W2
    have hC:=(HCL W4 (HA.out.below hb4) (HG.out.below hb4)).out
    have hs2:=hb2.size
    obtain ⟨fb,hfb⟩:∃ n,n=W2.heap.size:=⟨_,rfl⟩
    rw [← hfb] at hs2 hF4 ⊢
    have HNM:Hid (∀ k,Mine ph sv cv k→k ≠ fb):=fun k hk e=>by
     have:=(HA.out.mine hk).2
     omega
    clear hW4 hfb hb4'
    refine anyG_all [7] (by kernel_rfl) ?_
    intro i hi2
    obtain rfl:i=7:=by simpa using hi2
    clear hi2
    refine eOpG_keep rfl ?_
    go_wp2_with fail
    refine hC.mono ?_
    rintro x w3 ⟨F,c,cs',cv',rfl,hd,P3,T3,F3⟩
    obtain ⟨hA3,hT3⟩:=(HA.out.below hb4).closes P3 T3 F3
    have hT3':HTurn w w3 ph sv cv sv cv':=(HTurn.of_below hb4).trans hT3
    have hF3:FigAt w3 fb fig0:=hF4.same (hT3.block fb hF4.lt (fun hm=>HNM.out fb hm rfl))
    have HP:Hid (∀ F',DoesC h.bk h.cs (dK n:Int) c F' cs'→CloP w B ph sv cv h n (errV c) (.pointer (some ⟨fb,0,none⟩)) (set5 w3 fb F')):=fun F' hd'=>
     clo_put hF3 (fun hm=>by
      rcases hT3.fresh fb hm with x | x
      ·exact HNM.out fb x rfl
      ·have:=hF4.lt;omega) hs2 hd' hA3 hT3'
    obtain ⟨F1,F2,F3',F4,F5⟩:=F
    have HP2:=hidN (HP.out _ hd)
    obtain ⟨d0,d1,d2,d3,d4,e0,e1,e2,e3,e4⟩:=hF3
    simp only [fig0] at d0 d1 d2 d3 d4
    unfold figV
    simp only
    clear hC hd P3 T3 F3 hA3 hT3 hT3' HCL hF4 HP HNM hb4
    go_wp2_with fail
    refine ⟨rfl,trivial,?_⟩
    refine wpAnyG_pre (fun _=>trivial) (fun _ _ _ _ _=>trivial) (by kernel_rfl) 2 [(false,8),(false,9),(false,10)] _ _ _ (by kernel_rfl) ?_
    repeat (refine preG_p rfl ?_;go_big_quiet_step (fail);refine wpQuiet_nil ?_)
    refine preG_nil ?_
    refine anyG_all [12] (by kernel_rfl) ?_
    intro i hi2
    obtain rfl:i=12:=by simpa using hi2
    clear hi2
    refine eOpG_keep rfl ?_
    go_wp2_with fail
    refine ⟨rfl,trivial,?_⟩
    refine wpAnyG_pre (fun _=>trivial) (fun _ _ _ _ _=>trivial) (by kernel_rfl) 0 [(false,13)] _ _ _ (by kernel_rfl) ?_
    repeat (refine preG_p rfl ?_;go_big_quiet_step (fail);refine wpQuiet_nil ?_)
    refine preG_nil ?_
    refine anyG_nil (by kernel_rfl) ?_
    go_wp2
    go_meet
    case rel=>exact HP2.out
  case rest=>
   obtain ⟨fb,F,c,cs',cv',rfl,rfl,hF,hd,hA,hT⟩:=hcut
   rcases close_is HE.out hd with ⟨e1,hc,rfl⟩ | ⟨rfl,e1⟩
   ·have HF:Hid (DeedP w B ph sv cv h (closeD h.bk h.cs s.data.toList) (.returned (.tuple #[.string ⟨#[]⟩,errV c])) wc):=by
     show DeedP _ _ _ _ _ _ _ _ _
     rw [e1]
     exact ⟨sv,cv',rfl,hA,hT⟩
    have hc0:c ≠ 0:=by omega
    rw [errV_ne hc0] at HF ⊢
    clear e1 hF hd hA hT HCL
    go_wp2
    go_ret2
    exact HF.out
   ·have hpo:=fun W=>post_any F W
    have hpl:=postL_len F
    obtain ⟨N,hN⟩:∃ N,N=(postL F).length:=⟨_,rfl⟩
    have HG2:Hid (Ground B wc):=HG.out.turn HA.out hT
    rw [← hN] at hpl hpo e1
    have HIT:=fun (W:World) (g:Ground B W)=>hidN (itoaN (N:Int) W g.glob.ev.num (by omega) (by omega))
    obtain ⟨t1,ht1⟩:∃ t,t=eb (Lib.itoa (N:Int)):=⟨_,rfl⟩
    have hz1:t1.size≤20:=by rw [ht1];exact itoa_size _ (by omega) (by omega)
    have HTX:Hid (tClosedB ++ t1=ba (tClosed ++ Lib.itoa (N:Int))):=by
     show _=_
     rw [ht1,← ba_app];rfl
    rw [← ht1] at HIT
    have HF:Hid (∀ w',Below wc.heap.size wc w'→DeedP w B ph sv cv h (closeD h.bk h.cs s.data.toList) (.returned (.tuple #[.string (ba (tClosed ++ Lib.itoa (N:Int))),.nilIface])) w'):=fun w' hb=>by
     rw [e1]
     exact ⟨sv,cv',rfl,hA.below hb,hT.trans (HTurn.of_below hb)⟩
    unfold tClosedB at HTX
    rw [show errV 0=Value.nilIface from rfl]
    obtain ⟨F1,F2,F3,F4,F5⟩:=F
    obtain ⟨d0,d1,d2,d3,d4,e0',e1',e2',e3',e4'⟩:=hF
    simp only at d0 d1 d2 d3 d4
    have hp:=hpo wc
    unfold figV at hp
    simp only at hp
    clear hd hA hT HCL hpo e1 ht1 hN
    go_wp2_with fail
    refine hp.mono ?_
    rintro x w5 ⟨v,rfl,hown,hb5⟩
    obtain ⟨ad,cap,hv⟩:∃ ad cap,v = .slice ad N cap:=own_lenN hown
    subst hv
    have hI:=(HIT w5 (HG2.out.below hb5)).out
    clear hp hown d0 d1 d2 d3 d4 e0' e1' e2' e3' e4'
    go_wp2_with fail
    refine hI.mono ?_
    rintro x w6 ⟨rfl,hb6⟩
    have hfin:=HF.out w6 (hb5.trans (hb6.mono hb5.size))
    have HFN:=hidN hfin
    have e1:=HTX.out
    clear hI hfin
    go_wp2
    go_ret2
    exact HFN.out
def deedF (l:List UInt8):Nat:=if l=wPost then 60 else if l=wCorr then 61 else if l=wVoid then 62 else if l=wClose then 63 else 64
theorem txt_is (l m:List UInt8):((ba l).toList == m)=decide (l=m):=by
 rw [ByteArray.toList_eq,ba_data,Bool.eq_iff_iff];simp
set_option maxHeartbeats 2000000 in
theorem deed_any (ph:Nat) (l:List UInt8) (w:World) :
  Calls Tryz.prog 33 #[.pointer (some ⟨ph,0,none⟩),.string (ba l)] w fun e w'=>e = .returned (.func (.func (deedF l)) #[.pointer (some ⟨ph,0,none⟩)] #[])∧w'=w:=by
 unfold deedF
 have e1:=txt_is l wPost
 have e2:=txt_is l wCorr
 have e3:=txt_is l wVoid
 have e4:=txt_is l wClose
 obtain ⟨t,ht⟩:∃ t,t=ba l:=⟨_,rfl⟩
 rw [← ht] at e1 e2 e3 e4 ⊢
 clear ht
 by_cases h1:l=wPost
 ·rw [if_pos h1]
  rw [decide_eq_true h1] at e1
  unfold wPost at e1
  clear h1 e2 e3 e4
  go_enter Tryz.func33,Tryz.ntmps33
  go_wp2
  go_ret
  exact ⟨rfl,rfl⟩
 rw [if_neg h1]
 rw [decide_eq_false h1] at e1
 unfold wPost at e1
 by_cases h2:l=wCorr
 ·rw [if_pos h2]
  rw [decide_eq_true h2] at e2
  unfold wCorr at e2
  clear h2 e3 e4
  go_enter Tryz.func33,Tryz.ntmps33
  go_wp2
  go_ret
  exact ⟨rfl,rfl⟩
 rw [if_neg h2]
 rw [decide_eq_false h2] at e2
 unfold wCorr at e2
 by_cases h3:l=wVoid
 ·rw [if_pos h3]
  rw [decide_eq_true h3] at e3
  unfold wVoid at e3
  clear h3 e4
  go_enter Tryz.func33,Tryz.ntmps33
  go_wp2
  go_ret
  exact ⟨rfl,rfl⟩
 rw [if_neg h3]
 rw [decide_eq_false h3] at e3
 unfold wVoid at e3
 by_cases h4:l=wClose
 ·rw [if_pos h4]
  rw [decide_eq_true h4] at e4
  unfold wClose at e4
  clear h4
  go_enter Tryz.func33,Tryz.ntmps33
  go_wp2
  go_ret
  exact ⟨rfl,rfl⟩
 rw [if_neg h4]
 rw [decide_eq_false h4] at e4
 unfold wClose at e4
 clear h1 h2 h3 h4
 go_enter Tryz.func33,Tryz.ntmps33
 go_wp2
 go_ret
 exact ⟨rfl,rfl⟩
theorem frames_bdH:∀ (l:List (List UInt8)),(∀ t ∈ l,t.length≤200)→totL l≤216 * l.length
 | [],_=>Nat.le_refl _
 | t :: l,h=>by
  have h1:=h t (List.mem_cons_self ..)
  have h2:=frames_bdH l (fun x hx=>h x (List.mem_cons_of_mem _ hx))
  rw [tot_cons,List.length_cons];omega
theorem deedF_enters (l:List UInt8):∀ args w,(callFunc (deedF l) args).run Tryz.prog w = .ok (.enter (deedF l) args) w:=by
 unfold deedF
 split
 ·exact enters_of Tryz.func60 (by kernel_rfl) rfl
 split
 ·exact enters_of Tryz.func61 (by kernel_rfl) rfl
 split
 ·exact enters_of Tryz.func62 (by kernel_rfl) rfl
 split
 ·exact enters_of Tryz.func63 (by kernel_rfl) rfl
 ·exact enters_of Tryz.func64 (by kernel_rfl) rfl
theorem deed_does {w:World} {B ph:Nat} {sv cv:Value} {h:Hs} (a:HsAt w B ph sv cv h) (ho:HsOk h) (hn:h.ls.length≤100000) (hg:Ground B w) (word rest:List UInt8) (hs:rest.length≤1000) :
  Calls Tryz.prog (deedF word) #[.pointer (some ⟨ph,0,none⟩),.string (ba rest)] w (DeedP w B ph sv cv h (deedD h.bk h.cs word rest)):=by
 have hz:(ba rest).size≤1000:=by rw [ba_size];exact hs
 have e:=ba_data rest
 unfold deedF deedD
 split
 ·have:=post_deed a ho hn hg (ba rest) hz
  rw [e] at this;exact this
 split
 ·have:=corr_deed a ho hn hg (ba rest) hz
  rw [e] at this;exact this
 split
 ·have:=void_deed a ho hn hg (ba rest) hz
  rw [e] at this;exact this
 split
 ·have:=close_deed a ho hn hg (ba rest) hz
  rw [e] at this;exact this
 ·exact refuse_deed a (ba rest)
def DoP (w:World) (B ph:Nat) (sv cv:Value) (R:Rs) (r:Ending) (w':World):Prop:=
 ∃ sv' cv',r = .returned (.tuple #[.string (ba R.told),errV R.c])∧HsAt w' B ph sv' cv' R.h∧HTurn w w' ph sv cv sv' cv'
set_option maxRecDepth 20000 in
set_option maxHeartbeats 8000000 in
theorem do_any {w:World} {B ph:Nat} {sv cv:Value} {h:Hs} (a:HsAt w B ph sv cv h) (ho:HsOk h) (hn:h.ls.length≤10000) (hg:Ground B w) (l:List UInt8) (hs:l.length≤1000000) :
  Calls Tryz.prog 12 #[.pointer (some ⟨ph,0,none⟩),.string (ba l)] w (DoP w B ph sv cv (doH h l)):=by
 have hz:(ba l).size=l.length:=ba_size l
 have cn:=a.cn
 by_cases h2:200 < l.length
 ·have HD:doH h l=⟨[],3,h⟩:=by unfold doH;rw [if_pos h2]
  rw [HD]
  have hF:=jframe_long (h.ls.length:Nat) (ba l) w (by rw [hz];unfold maxLen;omega) (by omega)
  have HF:Hid (∀ w',Below w.heap.size w w'→DoP w B ph sv cv ⟨[],3,h⟩ (.returned (.tuple #[.string ⟨#[]⟩,errV 3])) w'):=fun w' hb=>⟨sv,cv,rfl,a.below hb,HTurn.of_below hb⟩
  rw [errV_ne (by decide)] at HF
  clear a ho hg HD
  go_enter Tryz.func12,Tryz.ntmps12
  go_wp2_with fail
  refine hF.mono ?_
  rintro x w1 ⟨rfl,hb1⟩
  have hR:=HF.out _ hb1
  clear hF HF
  go_wp2
  go_ret2
  exact hR
 ·have hF:=jframe_ok h.ls.length (ba l) w (by omega) (by omega)
  rw [ba_data] at hF
  have HA:=hidN a
  have HO:=hidN ho
  have HG:=hidN hg
  have hcut:=cut_len l
  have HC:=fun (W:World) (hW:Ground B W)=>hidN (cut_any (ba l) W hW.glob.ev.num (by omega))
  rw [ba_data] at HC
  have HX:Hid (ba (framesL 0 h.ls) ++ ba (frameL h.ls.length l)=ba (framesL 0 (h.ls ++ [l]))):=by
   show _=_
   rw [ba_app,frames_snoc,Nat.zero_add]
  have hz1:(ba (framesL 0 h.ls)).size≤2160000:=by
   rw [ba_size,frames_len]
   have:=frames_bdH h.ls ho.ls
   omega
  have hz2:(ba (frameL h.ls.length l)).size=16 + l.length:=by rw [ba_size,frame_len]
  obtain ⟨D,hDe⟩:∃ D,D=deedD h.bk h.cs (cutL l).1 (cutL l).2:=⟨_,rfl⟩
  have HD:Hid (doH h l=if D.c=0 then ⟨D.told,0,D.bk,D.cs,h.ls ++ [l]⟩ else ⟨[],D.c,h⟩):=by
   show _=_
   rw [hDe]
   unfold doH
   rw [if_neg h2]
  have HE:Hid (D.c ≠ 0→D.bk=h.bk∧D.cs=h.cs):=by
   rw [hDe]
   exact deed_err
  have HDD:=fun (W:World) (aW:HsAt W B ph sv cv h) (hW:Ground B W)=>hidN (deed_does aW ho (by omega) hW (cutL l).1 (cutL l).2 (by omega))
  rw [← hDe] at HDD
  have hdf:=fun W=>deed_any ph (cutL l).1 W
  have hen:=deedF_enters (cutL l).1
  obtain ⟨fd,hfd⟩:∃ fd,fd=deedF (cutL l).1:=⟨_,rfl⟩
  rw [← hfd] at HDD hdf hen
  obtain ⟨word,hword⟩:∃ word,word=(cutL l).1:=⟨_,rfl⟩
  rw [← hword] at HC hdf
  obtain ⟨rest,hrest⟩:∃ rest,rest=(cutL l).2:=⟨_,rfl⟩
  rw [← hrest] at HC HDD
  clear a ho hg hword hrest hDe hfd hcut
  go_enter Tryz.func12,Tryz.ntmps12
  go_wp2_with fail
  refine hF.mono ?_
  rintro x w1 ⟨rfl,hb1⟩
  have hC:=(HC w1 (HG.out.below hb1)).out
  clear hF HC cn
  go_wp2_with fail
  refine hC.mono ?_
  rintro x w2 ⟨⟨fb,rfl⟩,nd,hw2⟩
  have hb2:Below w.heap.size w w2:=by rw [hw2];exact below_drewN hb1 _
  have hdf2:=hdf w2
  have hA2:=HA.out.below hb2
  have hDD:=(HDD w2 hA2 (HG.out.below hb2)).out
  clear hC hw2 hdf HDD hA2
  go_wp2_with fail
  refine hdf2.mono ?_
  rintro x w3 ⟨rfl,hw3⟩
  subst w3
  clear hdf2
  go_wp2_with fail
  refine hDD.mono ?_
  rintro x w4 ⟨sv',cv',rfl,hA4,hT4⟩
  have hT4':HTurn w w4 ph sv cv sv' cv':=(HTurn.of_below hb2).trans hT4
  clear hDD hT4
  by_cases hc:D.c=0
  ·have HR:Hid (∀ w',HsAt w' B ph sv' cv' ⟨D.bk,D.cs,h.ls ++ [l]⟩→HTurn w4 w' ph sv' cv' sv' cv'→DoP w B ph sv cv (doH h l) (.returned (.tuple #[.string (ba D.told),.nilIface])) w'):=fun w' a' t'=>by
    rw [HD.out,if_pos hc]
    exact ⟨sv',cv',rfl,a',hT4'.trans t'⟩
   have hj:=hA4.jot l
   have HJ:=hidN (HR.out _ hj.1 hj.2)
   have cj:=hA4.cj
   have fj:=hA4.fj
   have cn:=hA4.cn
   have fn:=hA4.fn
   simp only at cj cn
   rw [hc,show errV 0=Value.nilIface from rfl]
   have e1:=HX.out
   clear hj HR hA4 hT4' hc HD HE HX
   go_wp2
   go_ret2
   exact HJ.out
  ·have HR:Hid (DoP w B ph sv cv (doH h l) (.returned (.tuple #[.string ⟨#[]⟩,errV D.c])) w4):=by
    show DoP _ _ _ _ _ _ _ _
    obtain ⟨e1,e2⟩:=HE.out hc
    rw [HD.out,if_neg hc]
    rw [e1,e2] at hA4
    exact ⟨sv',cv',rfl,hA4,hT4'⟩
   rw [errV_ne hc] at HR ⊢
   clear hA4 hT4' HD HE HX
   go_wp2
   go_ret2
   exact HR.out
theorem rd_small:∀ {n:Nat} {r:List UInt8} {ls:List (List UInt8)},Rd n r ls→(∀ t ∈ ls,t.length≤200)∧(ls=[]∨n + ls.length≤100001)
  | _,_,_,.none _=>⟨by simp,Or.inl rfl⟩
  | n,_,_,.some hh hr=>by
    obtain ⟨h1,h2⟩:=rd_small hr
    refine ⟨fun t ht=>?_,Or.inr ?_⟩
    · rcases List.mem_cons.1 ht with rfl | ht
      · exact hh.1
      · exact h1 t ht
    · have:=hh.2.1
      rcases h2 with rfl | h2
      · simp;omega
      · simp only [List.length_cons];omega
def RestP (ls:List (List UInt8)) (w:World) (e:Ending) (w':World):Prop:=
  ((GoodL ls∧∃ ph sv cv,e = .returned (.tuple #[.pointer (some ⟨ph,0,none⟩),.int .i64 (ls.length:Nat),.nilIface])∧HsAt w' w.heap.size ph sv cv (runH ls)) ∨
   (¬ GoodL ls∧e = .returned (.tuple #[.pointer none,.int .i64 0,errV 3])))∧Below w.heap.size w w'
set_option maxRecDepth 20000 in
set_option maxHeartbeats 8000000 in
theorem restore_any (s:ByteArray) (ls:List (List UInt8)) (w:World) (hg:GlobH w) (hs:s.size≤100000) (hrd0:Rd 0 s.data.toList ls) :
    Calls Tryz.prog 15 #[.string s] w (RestP ls w):=by
  have HR:=jread_any s w hs
  have HRD:=hidE hrd0
  have HG:=hidE hg
  clear hrd0 hg
  go_enter Tryz.func15,Tryz.ntmps15
  go_wp2_with fail
  refine HR.mono ?_
  rintro e w1 ⟨v,ls',rfl,hrd,htl,hown,hb1⟩
  obtain rfl:ls'=ls:=hrd.same HRD.out
  obtain ⟨ao,cap,rfl,hcap,hst⟩:=strs_of_own hown
  have hsm:=rd_small hrd
  have hll:ls'.length≤100001:=by
    rcases hsm.2 with h | h
    · rw [h];simp
    · omega
  have H200:Hid (∀ t ∈ ls',t.length≤200):=hsm.1
  have hlen:16 * ls'.length≤100000:=by
    have h1:=tot_ge ls'
    rw [size_data] at htl
    omega
  obtain ⟨W2,hW2⟩:∃ W,W=w1.alloc (.cells #[.slice none 0 0,.int .i64 0,.int .i64 0,.slice none 0 0,.string ⟨#[]⟩,.int .i64 0] 36):=⟨_,rfl⟩
  have hA2:HsAt W2 w1.heap.size w1.heap.size (.slice none 0 0) (.slice none 0 0) hs0:=by rw [hW2];exact house_new w1 _ (Nat.le_refl _)
  have hb2:Below w1.heap.size w1 W2:=by rw [hW2];exact (Below.refl _ _).alloc (Nat.le_refl _) _
  have HST:Hid (StrsC w1 ao ls'):=hst
  have HW2:Hid (W2=_):=hW2
  have HB1:Hid (Below w.heap.size w w1):=hb1
  have hs1:=hb1.size
  clear hW2 HR hown hst hsm htl hrd hb1 HRD
  go_wp2_with fail
  rw [← HW2.out]
  go_loopw [21] (fun i wr=>∃ k:Nat,k≤ls'.length∧i = .int .i64 k∧Hid (GoodL (ls'.take k))∧(∃ sv cv,Hid (HsAt wr w1.heap.size w1.heap.size sv cv (runH (ls'.take k))))∧Hid (Below w1.heap.size w1 wr)) (fun i _=>ls'.length - (intOf i).toNat)
  case atStart=>exact ⟨0,Nat.zero_le _,rfl,good_nil,⟨_,_,hA2⟩,hb2⟩
  case round=>
    obtain ⟨k,hk,rfl,HGO,⟨sv,cv,HAT⟩,HBL⟩:=hrel
    by_cases hlt:k < ls'.length
    · obtain ⟨b,o,e1,lt1,c1⟩:=HST.out.below HBL.out (by omega)
      subst e1
      have d1:=c1 k hlt
      have hmem:ls'[k] ∈ ls':=List.getElem_mem hlt
      have ht2:=H200.out _ hmem
      have HTK:Hid (ls'.take (k + 1)=ls'.take k ++ [ls'[k]]):=by show _=_;rw [List.take_succ_eq_append_getElem hlt]
      have hrl:(runH (ls'.take k)).ls.length=k:=by
        rw [run_ls _ _ rfl HGO.out,List.length_take];omega
      have hok:=ok_run _ (ls'.take k) rfl (by rw [List.length_take];omega) HGO.out
      have hgr:Ground w1.heap.size wr:=⟨w1,HG.out.below HB1.out,Nat.le_refl _,HBL.out⟩
      have hdo:=do_any HAT.out hok (by omega) hgr ls'[k] (by omega)
      obtain ⟨t,ht⟩:∃ t,t=ls'[k]:=⟨_,rfl⟩
      have HTE:=hidE ht
      rw [← ht] at d1 hdo HTK
      unfold encS at d1
      clear c1 ht hmem ht2 hok hgr hrl
      go_wp2_with fail
      refine hdo.mono ?_
      rintro x w4 ⟨sv',cv',rfl,hA4,hT4⟩
      have hB4:Below w1.heap.size w1 w4:=hT4.below HAT.out HBL.out HBL.out.size
      have HA4:=hidE hA4
      have HB4:=hidE hB4
      clear hdo hA4 hT4 hB4 d1
      by_cases hc:(doH (runH (ls'.take k)) t).c=0
      · rw [hc,show errV 0=Value.nilIface from rfl]
        have HC:=hidE hc
        clear hc
        go_wp2
        go_roundw
        case rel=>
          refine ⟨k + 1,by omega,by go_num,?_,⟨sv',cv',?_⟩,HB4⟩
          · show GoodL _
            rw [HTK.out];exact good_snoc HGO.out HC.out
          · show HsAt _ _ _ _ _ _
            rw [HTK.out,run_snoc];exact HA4.out
        case measure=>simp [intOf];omega
      · have HNG:Hid (¬ GoodL ls'):=fun hgd=>by
          have:=hgd k hlt
          rw [← HTE.out] at this
          exact hc this
        rw [errV_ne hc]
        clear hc
        have HFB:Hid (Below w.heap.size w w4):=HB1.out.trans (HB4.out.mono HB1.out.size)
        go_wp2
        refine bodyPost_ret (v:=.tuple #[.pointer none,.int .i64 0,.iface 69 (.int .i64 3)]) (by simp [results,Tryz.results15,go_sem]) rfl ?_
        exact ⟨Or.inr ⟨HNG.out,rfl⟩,HFB.out⟩
    · obtain rfl:k=ls'.length:=by omega
      have hgo:=HGO.out
      have hat:=HAT.out
      rw [List.take_length] at hgo hat
      have HGO2:=hidE hgo
      have HAT2:Hid (HsAt wr w.heap.size w1.heap.size sv cv (runH ls')):=hat.mono hs1
      have HFB:Hid (Below w.heap.size w wr):=HB1.out.trans (HBL.out.mono HB1.out.size)
      clear hgo hat HGO HAT
      go_wp2
      refine bodyPost_ret (v:=.tuple #[.pointer (some ⟨w1.heap.size,0,none⟩),.int .i64 (ls'.length:Nat),.nilIface]) (by simp [results,Tryz.results15,go_sem]) rfl ?_
      exact ⟨Or.inl ⟨HGO2.out,_,sv,cv,rfl,HAT2.out⟩,HFB.out⟩
theorem journal_any {w:World} {B ph:Nat} {sv cv:Value} {h:Hs} (a:HsAt w B ph sv cv h) :
  Calls Tryz.prog 14 #[.pointer (some ⟨ph,0,none⟩)] w fun e w'=>e = .returned (.string (ba (framesL 0 h.ls)))∧w'=w:=by
 have cj:=a.cj
 clear a
 go_enter Tryz.func14,Tryz.ntmps14
 go_wp2
 go_ret
 exact ⟨rfl,rfl⟩
end Go.Proofs.YtbleojodidbhiaaGreatDoor
