/-  -/
import Derived.Test.YtdkhohlhdiekmaaGreatDoorBnRh
import Derived.Test.YtdkhohlhdiekmaaGreatDoorBnRb
import Derived.Test.YtdkhohlhdiekmaaGreatDoorBnRd
import Derived.Test.YtdkhohlhdiekmaaGreatDoorBnLp
import Derived.Test.YtdkhohlhdiekmaaGreatDoorBnHd
import Derived.Deep.DeepCutAuto
import Derived.Test.YtdkhohlhdiekmaaGreatDoorBnJs
import Derived.Test.YtdkhohlhdiekmaaGreatDoorBnP
import Derived.Test.YtdkhohlhdiekmaaGreatDoorBnD
import Derived.Laws.StructEq
import Derived.Test.YtdkhohlhdiekmaaGreatDoorBnErr
import Derived.Test.YtdkhohlhdiekmaaGreatDoorBnB
namespace Go.Proofs.YtdkhohlhdiekmaaGreatDoor
open Go.RowKit
def RDoP (w:World) (B ph:Nat) (sv cv lv:Value) (h:Hs) (d:Dd) (r:Ending) (w':World):Prop:=
 ∃ t sv' cv',r = .returned (.tuple #[.string t,.int .i64 d.c])∧(d.c=0→t=ba d.told)∧RhAt w' B ph sv' cv' lv ⟨d.bk,d.cs,h.ls⟩∧RTurn w w' ph sv cv lv sv' cv' lv
theorem rdo_none {w w':World} {B ph:Nat} {sv cv lv:Value} {h:Hs} (a:RhAt w B ph sv cv lv h) (hb:Below w.heap.size w w') (c:Int) (hc:c ≠ 0) (t:ByteArray):RDoP w B ph sv cv lv h (ddE h.bk h.cs c) (.returned (.tuple #[.string t,.int .i64 c])) w':=
 ⟨t,sv,cv,rfl,fun e=>absurd e hc,a.below hb,RTurn.of_below hb⟩
theorem no_event (e:Ev):¬ Reads [] e:=fun h=>by
 have:=h.2.2
 unfold ET at this
 simp at this
theorem ev_nil:evOf []=none:=by
 rcases he:evOf [] with _ | e
 ·rfl
 ·exact absurd (evOf_some he) (no_event e)
theorem num_nil:numO []=none:=rfl
theorem deed_noblank (b:Bk) (cs:List Cl) (word:List UInt8):deedD b cs word []=ddE b cs 3:=by
 unfold deedD
 split
 ·unfold postD;rw [ev_nil]
 split
 ·unfold corrD;rw [show (cutL []).1=[] from rfl,num_nil]
 split
 ·unfold voidD;rw [num_nil]
 split
 ·unfold closeD
  rcases hd:dparsed ([] ++ [45,48,49]) with _ | n
  ·rfl
  ·have:=(dparsed_some hd).1
   simp at this
 ·rfl
set_option maxRecDepth 20000 in
set_option maxHeartbeats 8000000 in
theorem rdoes_none {w:World} {B ph:Nat} {sv cv lv:Value} {h:Hs} (a:RhAt w B ph sv cv lv h) (l:List UInt8) (hs:l.length≤1000) (hl:200 < l.length∨32 ∉ l) :
  Calls Tryz.prog 22 #[.pointer (some ⟨ph,0,none⟩),.string (ba l)] w (RDoP w B ph sv cv lv h (ddE h.bk h.cs 3)):=by
 have hz:(ba l).size=l.length:=ba_size l
 have HF:Hid (∀ w',Below w.heap.size w w'→RDoP w B ph sv cv lv h (ddE h.bk h.cs 3) (.returned (.tuple #[.string ⟨#[]⟩,.int .i64 3])) w'):=fun w' hb=>rdo_none a hb 3 (by decide) _
 have hb0:Below w.heap.size w (w.alloc (.cells #[.pointer (some ⟨ph,0,none⟩)] 32)):=(Below.refl _ _).alloc (Nat.le_refl _) _
 have hF:=HF.out _ hb0
 clear a HF hb0
 by_cases h2:200 < l.length
 ·go_enter Tryz.func22,Tryz.ntmps22
  go_wp2
  go_ret2
  exact hF
 ·have hix:=fun W=>ixb_any l W
  rw [ixb_none l (hl.resolve_left h2)] at hix
  go_enter Tryz.func22,Tryz.ntmps22
  go_wp2_with fail
  refine (hix _).mono ?_
  rintro x w1 ⟨rfl,hw1⟩
  subst w1
  clear hix
  go_wp2
  go_ret2
  exact hF
theorem does_ex (b:Bk) (cs:List Cl) (m:Int):∃ c F cs',DoesC b cs m c F cs':=by
 by_cases h1:m < 0∨3299 < m
 ·exact ⟨1,fig0,cs,Or.inl ⟨h1,rfl,rfl,rfl⟩⟩
 ·have h2:0≤m∧m≤3299:=by omega
  by_cases h3:cov cs m=true
  ·exact ⟨10,fig0,cs,Or.inr (Or.inl ⟨h2,h3,rfl,rfl,rfl⟩)⟩
  ·have h4:cov cs m=false:=by simpa using h3
   by_cases h5:60≤cs.length
   ·exact ⟨12,fig0,cs,Or.inr (Or.inr (Or.inl ⟨h2,h4,h5,rfl,rfl,rfl⟩))⟩
   ·exact ⟨0,_,_,Or.inr (Or.inr (Or.inr ⟨h2,h4,by omega,rfl,rfl,rfl⟩))⟩
def RCloP (w:World) (B ph:Nat) (sv cv lv:Value) (h:Hs) (n:Int) (s20 s23:Value) (wx:World):Prop:=
 ∃ fb F c cs' cv',s20 = .int .i64 c∧s23 = .pointer (some ⟨fb,0,none⟩)∧FigAt wx fb F∧DoesC h.bk h.cs (dK n:Int) c F cs'∧RhAt wx B ph sv cv' lv ⟨h.bk,cs',h.ls⟩∧RTurn w wx ph sv cv lv sv cv' lv
theorem rclo_put {w wx:World} {B ph fb:Nat} {sv cv lv cv':Value} {h:Hs} {n c:Int} {F F0:Fig} {cs':List Cl} (hf:FigAt wx fb F0) (hn:¬ RMine ph sv cv' lv fb) (hw:w.heap.size≤fb) (hd:DoesC h.bk h.cs (dK n:Int) c F cs') (a:RhAt wx B ph sv cv' lv ⟨h.bk,cs',h.ls⟩) (t:RTurn w wx ph sv cv lv sv cv' lv) :
  RCloP w B ph sv cv lv h n (.int .i64 c) (.pointer (some ⟨fb,0,none⟩)) (set5 wx fb F):=
 ⟨fb,F,c,cs',cv',rfl,rfl,hf.put F,hd,a.same fun k hk=>set5_other _ _ _ (fun e=>hn (e ▸ hk)),
  ⟨(set5_oth _ _ _).1.trans t.os,(set5_oth _ _ _).2.1.trans t.tape,(set5_oth _ _ _).2.2.trans t.output,by rw [set5_size];exact t.size,fun k hk hm=>(set5_other _ _ _ (by omega)).trans (t.block k hk hm),t.fresh⟩⟩
def RClosedP (w:World) (B ph:Nat) (sv cv lv:Value) (h:Hs) (m:Int) (r:Ending) (w':World):Prop:=
 ∃ F c cs' cv',r = .returned (.tuple #[figV F,.int .i64 c])∧DoesC h.bk h.cs m c F cs'∧RhAt w' B ph sv cv' lv ⟨h.bk,cs',h.ls⟩∧RTurn w w' ph sv cv lv sv cv' lv
theorem rclosed_any {w:World} {B ph:Nat} {sv cv lv:Value} {h:Hs} (a:RhAt w B ph sv cv lv h) (ho:HsOk h) (hg:GlobN w) (m:Int) :
  Calls Tryz.prog 56 #[.pointer (some ⟨ph,3,none⟩),.pointer (some ⟨ph,0,none⟩),.int .i64 m] w (RClosedP w B ph sv cv lv h m):=by
 refine (rclose_any a.pr a.bk ho.inv ⟨hg.tab⟩ (by have:=ho.cs;omega) m).mono ?_
 rintro r w' ⟨F,c,cs',cv',T',rfl,hd,P,T,Fr⟩
 obtain ⟨c0,F0,cs0,h0⟩:=does_ex h.bk h.cs m
 obtain ⟨rfl,rfl,rfl,rfl⟩:=does_same h0 hd
 obtain ⟨a',t'⟩:=a.closes P T Fr
 exact ⟨F0,c0,cs0,cv',rfl,h0,a',t'⟩
theorem late_is {cs:List Cl} {e:Ev} (hr:Rt e) (s:List UInt8):lateB cs e.day (ba s)=ba (s ++ lateT cs e):=by
 unfold lateB lateT lateD
 rw [decide_eq_true hr.2.1,Bool.true_and]
 by_cases hc:cov cs (dK e.day)=true
 ·rw [if_pos hc,if_pos hc,← ba_app];rfl
 ·rw [if_neg hc,if_neg hc,List.append_nil]
theorem postedB_is (m:Int):(⟨#[112,111,115,116,101,100,32]⟩:ByteArray) ++ eb (Lib.itoa m)=ba (tPosted ++ Lib.itoa m):=by
 rw [← ba_app];rfl
set_option maxRecDepth 20000 in
set_option maxHeartbeats 8000000 in
theorem rdoes_some {w:World} {B ph:Nat} {sv cv lv:Value} {h:Hs} (A:RhAt w B ph sv cv lv h) (a b:List UInt8) (hs:(a ++ 32 :: b).length≤200) (ha:32 ∉ a) (ho:HsOk h) (hn:h.ls.length≤10000) (hg:Ground B w) (het:Glob w) :
  Calls Tryz.prog 22 #[.pointer (some ⟨ph,0,none⟩),.string (ba (a ++ 32 :: b))] w (RDoP w B ph sv cv lv h (deedD h.bk h.cs a b)):=by
 obtain ⟨l,hle⟩:∃ l,l=a ++ 32 :: b:=⟨_,rfl⟩
 have hll:l.length=a.length + 1 + b.length:=by rw [hle];simp;omega
 have hz:(ba l).size=l.length:=ba_size l
 have hix:=fun W=>ixb_any l W
 have HX1:Hid ((ba l).extract 0 a.length=ba a):=by rw [hle];exact ext_head a b
 have HX2:Hid ((ba l).extract (a.length + 1) l.length=ba b):=by rw [hll,hle];exact ext_tail a b
 rw [hle,ixb_at a b ha,← hle] at hix
 rw [← hle] at hs ⊢
 have HA:=hidE A
 have HLL:=hidE hll
 obtain ⟨D,hD⟩:∃ D,D=deedD h.bk h.cs a b:=⟨_,rfl⟩
 rw [← hD]
 have HDD:=hidE hD
 clear hD
 have hal:a.length + 1≤l.length:=by omega
 clear A hle ha hll
 go_enter Tryz.func22,Tryz.ntmps22
 go_wp2_with fail
 refine (hix _).mono ?_
 rintro x w1 ⟨rfl,hw1⟩
 subst w1
 clear hix
 have hq1:(0:Int)≤(a.length:Int)∧(a.length:Int)≤(l.length:Int):=by omega
 have hq2:(0:Int)≤(a.length:Int) + 1∧(a.length:Int) + 1≤(l.length:Int):=by omega
 have mixed:Tryz.prog.follows .mixedOrders=true:=by kernel_rfl
 go_wp2_with fail
 go_quiet (fail)
 rw [HX1.out,HX2.out]
 have hb1:Below w.heap.size w ((w.alloc (.cells #[.pointer (some ⟨ph,0,none⟩)] 32)).drewN nq):=below_drewN ((Below.refl _ _).alloc (Nat.le_refl _) _) _
 have hbx:((w.alloc (.cells #[.pointer (some ⟨ph,0,none⟩)] 32)).drewN nq).cell? ⟨w.heap.size,0,none⟩=some (.pointer (some ⟨ph,0,none⟩)):=by
  show (w.alloc (.cells #[.pointer (some ⟨ph,0,none⟩)] 32)).cell? ⟨w.heap.size,0,none⟩=_
  simp
 obtain ⟨W1,hW1⟩:∃ W,W=(w.alloc (.cells #[.pointer (some ⟨ph,0,none⟩)] 32)).drewN nq:=⟨_,rfl⟩
 rw [← hW1] at hb1 hbx ⊢
 obtain ⟨bx,hbxe⟩:∃ b,b=w.heap.size:=⟨_,rfl⟩
 rw [← hbxe] at hbx ⊢
 have HBXL:Hid (w.heap.size≤bx∧bx < W1.heap.size):=⟨by rw [hbxe];exact Nat.le_refl _,World.block_lt_of_cell? _ _ hbx⟩
 have HBX:=hidE hbx
 have HB1:=hidE hb1
 have HO:=hidE ho
 have HG:=hidE hg
 have HGL:=hidE het
 have hbl:b.length≤200:=by have:=HLL.out;omega
 have hzb:(ba b).size=b.length:=ba_size b
 have hza:(ba a).size=a.length:=ba_size a
 have hal2:a.length≤200:=by omega
 have t1:=txt_is a wPost
 have t2:=txt_is a wCorr
 have t3:=txt_is a wVoid
 have t4:=txt_is a wClose
 clear hW1 hbxe hbx hb1 ho hg het hq1 hq2 HX1 HX2 HLL mixed hal hz hs
 by_cases h1:a=wPost
 ·have HD:Hid (D=postD h.bk h.cs b):=by show _=_;rw [HDD.out];unfold deedD;rw [if_pos h1]
  have hne:a ≠ wCorr∧a ≠ wVoid:=by rw [h1];decide
  rw [decide_eq_true h1] at t1
  rw [decide_eq_false hne.1] at t2
  rw [decide_eq_false hne.2] at t3
  unfold wPost at t1
  unfold wCorr at t2
  unfold wVoid at t3
  clear t4 h1 hne HDD
  obtain ⟨av,hav⟩:∃ t,t=ba a:=⟨_,rfl⟩
  rw [← hav] at t1 t2 t3 hza ⊢
  clear hav
  rcases he:evOf b with _ | e
  ·have HPD:Hid (D=ddE h.bk h.cs 3):=by show _=_;rw [HD.out];unfold postD;rw [he]
   have hP:=revent_bad (ba b) W1 (HGL.out.below HB1.out) (by omega) (by rw [ba_data];exact evOf_none he)
   have HF:Hid (∀ w',Below w.heap.size w w'→RDoP w B ph sv cv lv h D (.returned (.tuple #[.string ⟨#[]⟩,.int .i64 3])) w'):=fun w' hb=>by rw [HPD.out];exact rdo_none HA.out hb 3 (by decide) _
   unfold evV ev0 at hP
   simp only at hP
   clear he HPD
   go_wp2_with fail
   refine hP.mono ?_
   rintro x w2 ⟨rfl,hb2⟩
   have hB2:Below w.heap.size w w2:=HB1.out.trans (hb2.mono HB1.out.size)
   have hF:=HF.out _ (hB2.alloc hB2.size (.cells #[.int .i64 0,.string ⟨#[]⟩,.int .i64 0,.int .i64 0,.int .i64 0,.int .i64 0,.int .i64 0] 78))
   clear hP HF
   go_wp2
   go_ret2
   exact hF
  ·have hR:=evOf_some he
   have hrt:=hR.1
   have hew:=evW_of hR (by omega)
   have hP:=revent_ok (ba b) e W1 (HGL.out.below HB1.out) (by omega) (by rw [ba_data];exact hR)
   have HE:=hidN he
   have HRT:=hidN hrt
   have HEW:=hidN hew
   obtain ⟨id,item,kind,qty,price,ofI,day⟩:=e
   unfold evV at hP
   simp only at hP
   clear he hR hrt hew
   go_wp2_with fail
   refine hP.mono ?_
   rintro x w2 ⟨rfl,hb2⟩
   have hB2:Below w.heap.size w w2:=HB1.out.trans (hb2.mono HB1.out.size)
   obtain ⟨W3,hW3⟩:∃ W,W=w2.alloc (.cells #[.int .i64 id,.string item,.int .i64 kind,.int .i64 qty,.int .i64 price,.int .i64 ofI,.int .i64 day] 78):=⟨_,rfl⟩
   have hb3:Below w2.heap.size w2 W3:=by rw [hW3];exact (Below.refl _ _).alloc (Nat.le_refl _) _
   have hE3:EvAt W3 w2.heap.size ⟨id,item,kind,qty,price,ofI,day⟩:=by rw [hW3];constructor <;> simp
   have HB3:Hid (Below w.heap.size w W3):=hB2.trans (hb3.mono hB2.size)
   have hlt3:w2.heap.size < W3.heap.size:=by rw [hW3];simp
   have hbx3:W3.cell? ⟨bx,0,none⟩=some (.pointer (some ⟨ph,0,none⟩)):=below_cell (hb2.trans (hb3.mono hb2.size)) HBX.out
   have HW3:Hid (W3=_):=hW3
   rw [hW3] at hbx3
   clear hP hW3
   go_wp2_with fail
   rw [← HW3.out]
   rw [← HW3.out] at hbx3
   refine wp_region_turn [(.read,0),(.pure,1),(.pure,2),(.read,3),(.turn,4),(.pure,5),(.pure,6),(.pure,7),(.pure,8),(.pure,9)] (by kernel_rfl) (by kernel_rfl) ?_
   obtain ⟨W4,hW4⟩:∃ W,W=W3.drew:=⟨_,rfl⟩
   rw [← hW4]
   have hb4:Below W3.heap.size W3 W4:=by rw [hW4];exact below_drew _
   have hB4:Below w.heap.size w W4:=HB3.out.trans (hb4.mono HB3.out.size)
   have hA4:=HA.out.below hB4
   have hE4:=hE3.below hb4
   have hbn:=HO.out.n
   have hPO:=rpost_does hA4.bk (HO.out.inv.ok (by omega)) _ HEW.out HRT.out
   unfold evV at hPO
   simp only at hPO
   have HA4:=hidN hA4
   have hU:=up_ne
   have hA:=anyW_ne
   have f0:=fun n:Up W4=>(hE4.up n).c0
   have f1:=fun n:Up W4=>(hE4.up n).c1
   have f2:=fun n:Up W4=>(hE4.up n).c2
   have f3:=fun n:Up W4=>(hE4.up n).c3
   have f4:=fun n:Up W4=>(hE4.up n).c4
   have f5:=fun n:Up W4=>(hE4.up n).c5
   have f6:=fun n:Up W4=>(hE4.up n).c6
   have f7:=fun n:Up W4=>n.cell (below_cell hb4 hbx3)
   simp only at f0 f1 f2 f3 f4 f5 f6
   have HE4:=hidN hE4
   have HBX4:Hid (W4.cell? ⟨bx,0,none⟩=some (.pointer (some ⟨ph,0,none⟩))):=below_cell hb4 hbx3
   have hlt4:w2.heap.size < W4.heap.size:=Nat.lt_of_lt_of_le hlt3 hb4.size
   have HB4:=hidN hB4
   clear hW4 HW3 hA4 hE3 hE4 hb3 hb4 hB4 hbx3 hbn
   repeat (first | refine turn_p rfl ?_ | refine turn_q rfl ?_);go_big_quiet_step (fail);refine wpQuiet_nil ?_
   clear f0 f1 f2 f3 f4 f5 f6 f7
   refine turn_t rfl ?_
   go_wp2_with fail
   refine hPO.mono ?_
   rintro x w5 ⟨m,c,b',sv',rfl,hcase,H3,T3,F3⟩
   have HC:=hidN hcase
   obtain ⟨hA5,hT5⟩:=HA4.out.book H3 T3 F3
   have HT5:Hid (RTurn w w5 ph sv cv lv sv' cv lv):=(RTurn.of_below HB4.out).trans hT5
   have hnm:∀ k,RMine ph sv cv lv k→k < w.heap.size:=fun k hk=>(HA.out.mine hk).2
   have hs2:=hB2.size
   have ek:∀ k,w.heap.size≤k→k < W4.heap.size→w5.heap[k]?=W4.heap[k]?:=fun k h1 h2=>hT5.block k h2 (fun hm=>by have:=hnm k hm;omega)
   have hE5:EvAt w5 w2.heap.size ⟨id,item,kind,qty,price,ofI,day⟩:=by
    have e:=ek w2.heap.size hs2 hlt4
    have c (o:Nat):w5.cell? ⟨w2.heap.size,o,none⟩=W4.cell? ⟨w2.heap.size,o,none⟩:=World.cell?_of_block (a:=⟨w2.heap.size,o,none⟩) e
    have x:=HE4.out
    exact ⟨(c 0).trans x.c0,(c 1).trans x.c1,(c 2).trans x.c2,(c 3).trans x.c3,(c 4).trans x.c4,(c 5).trans x.c5,(c 6).trans x.c6⟩
   have hbx5:w5.cell? ⟨bx,0,none⟩=some (.pointer (some ⟨ph,0,none⟩)):=(World.cell?_of_block (a:=⟨bx,0,none⟩) (ek bx HBXL.out.1 (World.block_lt_of_cell? _ _ HBX4.out))).trans HBX4.out
   have HA5:=hidN hA5
   have HE5:=hidN hE5
   have HBX5:=hidN hbx5
   clear hcase H3 T3 F3 hPO hA5 hT5 hE5 hbx5 ek hnm
   go_wp2_with fail
   refine ⟨rfl,?_⟩
   repeat (first | refine turn_p rfl ?_ | refine turn_q rfl ?_);go_big_quiet_step (fail);refine wpQuiet_nil ?_
   refine turn_nil ?_
   have hbd : -9223372036854775808≤m∧m≤9223372036854775807∧0≤m:=by
    have g0:=HO.out.inv.g0
    have gn:=HO.out.inv.gn
    have hbn:=HO.out.n
    rcases HC.out with ⟨h1,_⟩ | ⟨h1,_⟩ <;> omega
   obtain ⟨t1,ht1⟩:∃ t,t=eb (Lib.itoa m):=⟨_,rfl⟩
   have hz1:t1.size≤20:=by rw [ht1];exact itoa_size _ hbd.2.2 hbd.2.1
   have HPB:Hid ((⟨#[112,111,115,116,101,100,32]⟩:ByteArray) ++ t1=ba (tPosted ++ Lib.itoa m)):=by rw [ht1];exact postedB_is m
   have hz2:(ba (tPosted ++ Lib.itoa m)).size≤27:=by
    rw [← HPB.out,ByteArray.size_append]
    have:(⟨#[112,111,115,116,101,100,32]⟩:ByteArray).size=7:=rfl
    omega
   obtain ⟨tp,htp⟩:∃ t,t=ba (tPosted ++ Lib.itoa m):=⟨_,rfl⟩
   have HTP:=hidN htp
   rw [← htp] at hz2 HPB
   have HFIN:Hid (∀ w',Below w5.heap.size w5 w'→RDoP w B ph sv cv lv h D (.returned (.tuple #[.string (lateB h.cs day tp),.int .i64 c])) w'):=fun w' hb=>by
    have hD2:=HD.out
    unfold postD at hD2
    rw [HE.out] at hD2
    simp only at hD2
    rcases HC.out with ⟨_,hc,hl,hb'⟩ | ⟨hm,hc,hl,hb'⟩
    ·rw [if_neg hl] at hD2
     have a5:=HA5.out
     rw [hb'] at a5
     rw [hD2,hc]
     exact ⟨_,sv',cv,rfl,fun e=>absurd (show (12:Int)=0 from e) (by decide),a5.below hb,HT5.out.trans (RTurn.of_below hb)⟩
    ·rw [if_pos hl] at hD2
     have a5:=HA5.out
     rw [hb'] at a5
     rw [hD2,hc]
     refine ⟨_,sv',cv,rfl,fun _=>?_,a5.below hb,HT5.out.trans (RTurn.of_below hb)⟩
     rw [HTP.out,hm]
     exact late_is HRT.out _
   go_wp2_with fail
   refine wp_region_turn [(.pure,0),(.pure,1),(.pure,4),(.read,5),(.pure,7),(.make,2),(.pure,3),(.make,6),(.pure,8),(.pure,9)] (by kernel_rfl) (by kernel_rfl) ?_
   obtain ⟨W6,hW6⟩:∃ W,W=w5.drew:=⟨_,rfl⟩
   rw [← hW6]
   have hb6:Below w5.heap.size w5 W6:=by rw [hW6];exact below_drew _
   have hG6:GlobE W6:=((HG.out.rturn HA.out HT5.out).below hb6).glob.ev
   have hI:=itoaN m W6 hG6.num hbd.1 hbd.2.1
   rw [← ht1] at hI
   have hE6:=HE5.out.below hb6
   have f6:=fun n:Up W6=>(hE6.up n).c6
   simp only at f6
   have HB6:=hidN hb6
   clear hW6 hE6 hG6 hb6 ht1 htp hbd
   repeat (first | refine turn_p rfl ?_ | refine turn_q rfl ?_);go_big_quiet_step (fail);refine wpQuiet_nil ?_
   clear f6
   refine turn_n rfl ?_
   go_wp2_with fail
   refine hI.mono ?_
   rintro x w7 ⟨rfl,hb7⟩
   have hB7:Below w5.heap.size w5 w7:=HB6.out.trans (hb7.mono HB6.out.size)
   have hLF:=latefn_any (HA5.out.pr.below hB7) (by have:=HO.out.cs;show h.cs.length≤1000;omega) (below_cell hB7 HBX5.out) tp (by omega) day
   have HB7:=hidN hb7
   have HB7':=hidN hB7
   have e1:=HPB.out
   clear hI hb7 hB7
   go_wp2_with fail
   refine ⟨rfl,HB7.out,?_⟩
   repeat (first | refine turn_p rfl ?_ | refine turn_q rfl ?_);go_big_quiet_step (fail);refine wpQuiet_nil ?_
   refine turn_n rfl ?_
   go_wp2_with fail
   refine hLF.mono ?_
   rintro x w8 ⟨rfl,hb8⟩
   have HF:=hidN (HFIN.out w8 (HB7'.out.trans (hb8.mono HB7'.out.size)))
   have HB8:=hidN hb8
   clear hLF hb8 e1 HFIN
   go_wp2_with fail
   refine ⟨rfl,HB8.out,?_⟩
   repeat (first | refine turn_p rfl ?_ | refine turn_q rfl ?_);go_big_quiet_step (fail);refine wpQuiet_nil ?_
   refine turn_nil ?_
   go_wp2
   go_ret2
   exact HF.out
 rw [decide_eq_false h1] at t1
 unfold wPost at t1
 by_cases h2:a=wCorr
 ·have HD:Hid (D=corrD h.bk h.cs b):=by show _=_;rw [HDD.out];unfold deedD;rw [if_neg h1,if_pos h2]
  have hne:a ≠ wVoid:=by rw [h2];decide
  rw [decide_eq_true h2] at t2
  rw [decide_eq_false hne] at t3
  unfold wCorr at t2
  unfold wVoid at t3
  clear t4 h1 h2 hne HDD
  obtain ⟨av,hav⟩:∃ t,t=ba a:=⟨_,rfl⟩
  rw [← hav] at t1 t2 t3 hza ⊢
  clear hav
  have hix2:=fun W=>ixb_any b W
  have hgei:=Lib.indexByte_ge b 32
  obtain ⟨ib,hib⟩:∃ i,i=Lib.indexByte b 32:=⟨_,rfl⟩
  rw [← hib] at hix2 hgei
  have HIB:=hidE hib
  clear hib
  go_wp2_with fail
  refine (hix2 _).mono ?_
  rintro x w2 ⟨rfl,hw2⟩
  subst w2
  clear hix2
  go_upto_if 52 with fail
  obtain ⟨f1,f2,hff⟩:∃ x y,cutL b=(x,y):=⟨_,_,rfl⟩
  have hfl:=cut_len b
  rw [hff] at hfl
  simp only at hfl
  have HFF:=hidE hff
  clear hff
  go_cut [8,10] (fun s8 s10 wx=>s8 = .string (ba f2)∧s10 = .string (ba f1)∧Hid (Below W1.heap.size W1 wx))
  case first=>
   rcases cut_cases b with ⟨hn1,hn2⟩ | ⟨x,y,hx1,hx2,hx3⟩
   ·have hi:ib = -1:=by rw [HIB.out];exact ixb_none b hn1
    rw [HFF.out] at hn2
    obtain ⟨rfl,rfl⟩:f1=b∧f2=[]:=by simpa using hn2
    subst hi
    clear hn1 hn2 hgei
    go_wp2
    go_meet
    case rel=>exact ⟨rfl,rfl,Below.refl _ _⟩
   ·have hi:ib=(x.length:Int):=by rw [HIB.out,hx1];exact ixb_at x y hx2
    rw [HFF.out] at hx3
    obtain ⟨rfl,rfl⟩:f1=x∧f2=y:=by simpa using hx3
    subst hi
    have HX3:Hid ((ba b).extract 0 f1.length=ba f1):=by rw [hx1];exact ext_head f1 f2
    have hbl2:b.length=f1.length + 1 + f2.length:=by rw [hx1];simp;omega
    have HX4:Hid ((ba b).extract (f1.length + 1) b.length=ba f2):=by rw [hbl2,hx1];exact ext_tail f1 f2
    have hq1:(0:Int)≤(f1.length:Int)∧(f1.length:Int)≤(b.length:Int):=by omega
    have hq2:(0:Int)≤(f1.length:Int) + 1∧(f1.length:Int) + 1≤(b.length:Int):=by omega
    have hq3:(0:Int)≤(f1.length:Int):=by omega
    have mixed:Tryz.prog.follows .mixedOrders=true:=by kernel_rfl
    clear hx1 hx2 hx3 hbl2
    go_wp2_with fail
    go_quiet (fail)
    rw [HX3.out,HX4.out]
    go_wp2
    go_meet
    case rel=>exact ⟨rfl,rfl,below_drewN (Below.refl _ _) _⟩
  case rest=>
   obtain ⟨rfl,rfl,HBC⟩:=hcut
   have HB2:Hid (Below w.heap.size w wc):=HB1.out.trans (HBC.out.mono HB1.out.size)
   have HBXC:Hid (wc.cell? ⟨bx,0,none⟩=some (.pointer (some ⟨ph,0,none⟩))):=below_cell HBC.out HBX.out
   have hzf1:(ba f1).size=f1.length:=ba_size f1
   have hzf2:(ba f2).size=f2.length:=ba_size f2
   have hG2:GlobN wc:=(HG.out.below HB2.out).glob.ev.num
   have hcd:corrD h.bk h.cs b=match numO f1 with
     | none=>ddE h.bk h.cs 3
     | some id=>match evOf f2 with
      | none=>ddE h.bk h.cs 3
      | some e=>if kIx h.bk.vs id = -1 then ddE h.bk h.cs 7 else if h.bk.vs.length < 120 then ⟨tCorrected ++ lateT h.cs e,0,corrB h.bk (kIx h.bk.vs id).toNat id e,h.cs⟩ else ddE h.bk h.cs 12:=by
    unfold corrD;rw [HFF.out];rfl
   rcases hm:numO f1 with _ | id
   ·have HPD:Hid (D=ddE h.bk h.cs 3):=by show _=_;rw [HD.out,hcd,hm]
    have HF:Hid (∀ w',Below w.heap.size w w'→RDoP w B ph sv cv lv h D (.returned (.tuple #[.string ⟨#[]⟩,.int .i64 3])) w'):=fun w' hb=>by rw [HPD.out];exact rdo_none HA.out hb 3 (by decide) _
    have hN:=rnum_bad (ba f1) wc hG2 (by omega) (by rw [ba_data];exact hm)
    clear hcd hm
    go_wp2_with fail
    refine hN.mono ?_
    rintro x w3 ⟨⟨u,rfl⟩,hb3⟩
    have hF:=HF.out w3 (HB2.out.trans (hb3.mono HB2.out.size))
    clear hN HF
    go_wp2
    go_ret2
    exact hF
   ·have hN:=rnum_ok (ba f1) id wc hG2 (by omega) (by rw [ba_data];exact hm)
    rcases he:evOf f2 with _ | e
    ·have HPD:Hid (D=ddE h.bk h.cs 3):=by show _=_;rw [HD.out,hcd,hm,he]
     have HF:Hid (∀ w' t,Below w.heap.size w w'→RDoP w B ph sv cv lv h D (.returned (.tuple #[.string t,.int .i64 3])) w'):=fun w' t hb=>by rw [HPD.out];exact rdo_none HA.out hb 3 (by decide) _
     have HP:=fun (W:World) (hb:Below w.heap.size w W)=>hidE (revent_bad (ba f2) W (HGL.out.below hb) (by omega) (by rw [ba_data];exact evOf_none he))
     unfold evV ev0 at HP
     simp only at HP
     clear hcd hm he
     go_wp2_with fail
     refine hN.mono ?_
     rintro x w3 ⟨rfl,hb3⟩
     have hB3:Below w.heap.size w w3:=HB2.out.trans (hb3.mono HB2.out.size)
     have hP:=(HP w3 hB3).out
     have hbx3:=below_cell hb3 HBXC.out
     clear hN HP
     go_wp2_with fail
     refine hP.mono ?_
     rintro x w4 ⟨rfl,hb4⟩
     have hB4:Below w.heap.size w w4:=hB3.trans (hb4.mono hB3.size)
     obtain ⟨W5,hW5⟩:∃ W,W=w4.alloc (.cells #[.int .i64 0,.string ⟨#[]⟩,.int .i64 0,.int .i64 0,.int .i64 0,.int .i64 0,.int .i64 0] 78):=⟨_,rfl⟩
     have hb5:Below w4.heap.size w4 W5:=by rw [hW5];exact (Below.refl _ _).alloc (Nat.le_refl _) _
     have HB5:Hid (Below w.heap.size w W5):=hB4.trans (hb5.mono hB4.size)
     have hE5:EvAt W5 w4.heap.size ⟨0,⟨#[]⟩,0,0,0,0,0⟩:=by rw [hW5];constructor <;> simp
     have HW5:Hid (W5=_):=hW5
     clear hP hW5
     go_wp2_with fail
     rw [← HW5.out]
     have hLF:=latefn_any (HA.out.below HB5.out).pr (by have:=HO.out.cs;omega) (below_cell (hb4.trans (hb5.mono hb4.size)) hbx3) (⟨#[99,111,114,114,101,99,116,101,100]⟩:ByteArray) (by decide) 0
     refine hLF.mono ?_
     rintro x w6 ⟨rfl,hb6⟩
     have hF:=HF.out w6 (lateB h.cs 0 ⟨#[99,111,114,114,101,99,116,101,100]⟩) (HB5.out.trans (hb6.mono HB5.out.size))
     clear hLF HF HW5 hE5
     go_wp2
     go_ret2
     exact hF
    ·have hR:=evOf_some he
     have hrt:=hR.1
     have hew:=evW_of hR (by omega)
     have HP:=fun (W:World) (hb:Below w.heap.size w W)=>hidE (revent_ok (ba f2) e W (HGL.out.below hb) (by omega) (by rw [ba_data];exact hR))
     have HPD:Hid (D=if kIx h.bk.vs id = -1 then ddE h.bk h.cs 7 else if h.bk.vs.length < 120 then ⟨tCorrected ++ lateT h.cs e,0,corrB h.bk (kIx h.bk.vs id).toNat id e,h.cs⟩ else ddE h.bk h.cs 12):=by show _=_;rw [HD.out,hcd,hm,he]
     have HRT:=hidN hrt
     have HEW:=hidN hew
     obtain ⟨eid,item,kind,qty,price,ofI,day⟩:=e
     unfold evV at HP
     simp only at HP
     clear hcd hm he hR hrt hew
     go_wp2_with fail
     refine hN.mono ?_
     rintro x w3 ⟨rfl,hb3⟩
     have hB3:Below w.heap.size w w3:=HB2.out.trans (hb3.mono HB2.out.size)
     have hP:=(HP w3 hB3).out
     have hbx3:=below_cell hb3 HBXC.out
     clear hN HP
     go_wp2_with fail
     refine hP.mono ?_
     rintro x w4 ⟨rfl,hb4⟩
     have hB4:Below w.heap.size w w4:=hB3.trans (hb4.mono hB3.size)
     obtain ⟨W5,hW5⟩:∃ W,W=w4.alloc (.cells #[.int .i64 eid,.string item,.int .i64 kind,.int .i64 qty,.int .i64 price,.int .i64 ofI,.int .i64 day] 78):=⟨_,rfl⟩
     have hb5:Below w4.heap.size w4 W5:=by rw [hW5];exact (Below.refl _ _).alloc (Nat.le_refl _) _
     have HB5:Hid (Below w.heap.size w W5):=hB4.trans (hb5.mono hB4.size)
     have hE5:EvAt W5 w4.heap.size ⟨eid,item,kind,qty,price,ofI,day⟩:=by rw [hW5];constructor <;> simp
     have hlt5:w4.heap.size < W5.heap.size:=by rw [hW5];simp
     have hbx5:W5.cell? ⟨bx,0,none⟩=some (.pointer (some ⟨ph,0,none⟩)):=below_cell (hb4.trans (hb5.mono hb4.size)) hbx3
     have HW5:Hid (W5=_):=hW5
     rw [hW5] at hbx5
     clear hP hW5 hbx3
     go_wp2_with fail
     rw [← HW5.out]
     rw [← HW5.out] at hbx5
     refine wp_region_turn [(.read,0),(.pure,1),(.pure,2),(.pure,3),(.read,4),(.turn,5),(.pure,6)] (by kernel_rfl) (by kernel_rfl) ?_
     obtain ⟨W6,hW6⟩:∃ W,W=W5.drew:=⟨_,rfl⟩
     rw [← hW6]
     have hb6:Below W5.heap.size W5 W6:=by rw [hW6];exact below_drew _
     have hB6:Below w.heap.size w W6:=HB5.out.trans (hb6.mono HB5.out.size)
     have hA6:=HA.out.below hB6
     have hE6:=hE5.below hb6
     have hbn:=HO.out.n
     have hPO:=rcorr_does hA6.bk (HO.out.inv.ok (by omega)) id _ HEW.out HRT.out
     unfold evV at hPO
     simp only at hPO
     have HA6:=hidN hA6
     have hU:=up_ne
     have hA:=anyW_ne
     have f0:=fun n:Up W6=>(hE6.up n).c0
     have g1:=fun n:Up W6=>(hE6.up n).c1
     have g2:=fun n:Up W6=>(hE6.up n).c2
     have f3:=fun n:Up W6=>(hE6.up n).c3
     have f4:=fun n:Up W6=>(hE6.up n).c4
     have f5:=fun n:Up W6=>(hE6.up n).c5
     have f6:=fun n:Up W6=>(hE6.up n).c6
     have f7:=fun n:Up W6=>n.cell (below_cell hb6 hbx5)
     simp only at f0 g1 g2 f3 f4 f5 f6
     have HE6:=hidN hE6
     have HBX6:Hid (W6.cell? ⟨bx,0,none⟩=some (.pointer (some ⟨ph,0,none⟩))):=below_cell hb6 hbx5
     have hlt6:w4.heap.size < W6.heap.size:=Nat.lt_of_lt_of_le hlt5 hb6.size
     have HB6:=hidN hB6
     clear hW6 HW5 hA6 hE5 hE6 hb5 hb6 hB6 hbx5 hbn
     repeat (first | refine turn_p rfl ?_ | refine turn_q rfl ?_);go_big_quiet_step (fail);refine wpQuiet_nil ?_
     clear f0 g1 g2 f3 f4 f5 f6 f7
     refine turn_t rfl ?_
     go_wp2_with fail
     refine hPO.mono ?_
     rintro x w7 ⟨c,b',sv',rfl,hcase,H3,T3,F3⟩
     have HC:=hidN hcase
     obtain ⟨hA7,hT7⟩:=HA6.out.book H3 T3 F3
     have HT7:Hid (RTurn w w7 ph sv cv lv sv' cv lv):=(RTurn.of_below HB6.out).trans hT7
     have hnm:∀ k,RMine ph sv cv lv k→k < w.heap.size:=fun k hk=>(HA.out.mine hk).2
     have hs4:=hB4.size
     have ek:∀ k,w.heap.size≤k→k < W6.heap.size→w7.heap[k]?=W6.heap[k]?:=fun k h1 h2=>hT7.block k h2 (fun hm=>by have:=hnm k hm;omega)
     have hE7:w7.cell? ⟨w4.heap.size,6,none⟩=some (.int .i64 day):=(World.cell?_of_block (a:=⟨w4.heap.size,6,none⟩) (ek w4.heap.size hs4 hlt6)).trans HE6.out.c6
     have hbx7:w7.cell? ⟨bx,0,none⟩=some (.pointer (some ⟨ph,0,none⟩)):=(World.cell?_of_block (a:=⟨bx,0,none⟩) (ek bx HBXL.out.1 (World.block_lt_of_cell? _ _ HBX6.out))).trans HBX6.out
     have HA7:=hidN hA7
     have hLF:=latefn_any hA7.pr (by have:=HO.out.cs;show h.cs.length≤1000;omega) hbx7 (⟨#[99,111,114,114,101,99,116,101,100]⟩:ByteArray) (by decide) day
     have HFIN:Hid (∀ w',Below w7.heap.size w7 w'→RDoP w B ph sv cv lv h D (.returned (.tuple #[.string (lateB h.cs day ⟨#[99,111,114,114,101,99,116,101,100]⟩),.int .i64 c])) w'):=fun w' hb=>by
      have hD2:=HPD.out
      have a7:=HA7.out
      rcases HC.out with ⟨hc,hk,hb'⟩ | ⟨hc,hk,hl,hb'⟩ | ⟨hc,hk,hl,hb'⟩
      ·rw [if_pos hk] at hD2
       rw [hb'] at a7
       rw [hD2,hc]
       exact ⟨_,sv',cv,rfl,fun e=>absurd (show (7:Int)=0 from e) (by decide),a7.below hb,HT7.out.trans (RTurn.of_below hb)⟩
      ·rw [if_neg hk,if_neg hl] at hD2
       rw [hb'] at a7
       rw [hD2,hc]
       exact ⟨_,sv',cv,rfl,fun e=>absurd (show (12:Int)=0 from e) (by decide),a7.below hb,HT7.out.trans (RTurn.of_below hb)⟩
      ·rw [if_neg hk,if_pos hl] at hD2
       rw [hb'] at a7
       rw [hD2,hc]
       refine ⟨_,sv',cv,rfl,fun _=>?_,a7.below hb,HT7.out.trans (RTurn.of_below hb)⟩
       exact late_is HRT.out tCorrected
     clear hcase H3 T3 F3 hPO hA7 hT7 hbx7 ek hnm
     go_wp2_with fail
     refine ⟨rfl,?_⟩
     repeat (first | refine turn_p rfl ?_ | refine turn_q rfl ?_);go_big_quiet_step (fail);refine wpQuiet_nil ?_
     refine turn_nil ?_
     go_wp2_with fail
     refine hLF.mono ?_
     rintro x w8 ⟨rfl,hb8⟩
     have HF:=hidN (HFIN.out w8 hb8)
     clear hLF hb8 HFIN hE7
     go_wp2
     go_ret2
     exact HF.out
 rw [decide_eq_false h2] at t2
 unfold wCorr at t2
 by_cases h3:a=wVoid
 ·have HD:Hid (D=voidD h.bk h.cs b):=by show _=_;rw [HDD.out];unfold deedD;rw [if_neg h1,if_neg h2,if_pos h3]
  rw [decide_eq_true h3] at t3
  unfold wVoid at t3
  clear t4 h1 h2 h3 HDD
  obtain ⟨av,hav⟩:∃ t,t=ba a:=⟨_,rfl⟩
  rw [← hav] at t1 t2 t3 hza ⊢
  clear hav
  have hix2:=fun W=>ixb_any b W
  have hG1:GlobN W1:=(HG.out.below HB1.out).glob.ev.num
  generalize Lib.indexByte b 32=ib at hix2
  rcases hm:numO b with _ | id
  ·have HPD:Hid (D=ddE h.bk h.cs 3):=by show _=_;rw [HD.out];unfold voidD;rw [hm]
   have HF:Hid (∀ w',Below w.heap.size w w'→RDoP w B ph sv cv lv h D (.returned (.tuple #[.string ⟨#[]⟩,.int .i64 3])) w'):=fun w' hb=>by rw [HPD.out];exact rdo_none HA.out hb 3 (by decide) _
   have hN:=rnum_bad (ba b) W1 hG1 (by omega) (by rw [ba_data];exact hm)
   clear hm
   go_wp2_with fail
   refine (hix2 _).mono ?_
   rintro x w2 ⟨rfl,hw2⟩
   subst w2
   clear hix2
   go_wp2_with fail
   refine hN.mono ?_
   rintro x w3 ⟨⟨u,rfl⟩,hb3⟩
   have hF:=HF.out w3 (HB1.out.trans (hb3.mono HB1.out.size))
   clear hN HF
   go_wp2
   go_ret2
   exact hF
  ·have hN:=rnum_ok (ba b) id W1 hG1 (by omega) (by rw [ba_data];exact hm)
   have HPD:Hid (D=if kIx h.bk.vs id = -1 then ddE h.bk h.cs 7 else ⟨tVoided,0,endB h.bk (kIx h.bk.vs id).toNat,h.cs⟩):=by show _=_;rw [HD.out];unfold voidD;rw [hm]
   clear hm
   go_wp2_with fail
   refine (hix2 _).mono ?_
   rintro x w2 ⟨rfl,hw2⟩
   subst w2
   clear hix2
   go_wp2_with fail
   refine hN.mono ?_
   rintro x w3 ⟨rfl,hb3⟩
   have HB3:Hid (Below w.heap.size w w3):=HB1.out.trans (hb3.mono HB1.out.size)
   have hbx3:=below_cell hb3 HBX.out
   clear hN
   have hbn:=HO.out.n
   have hA3:=HA.out.below HB3.out
   have hV:=rvoid_does hA3.bk (HO.out.inv.ok (by omega)) id
   have HA3:=hidN hA3
   clear hA3 hbn
   go_wp2_with fail
   refine hV.mono ?_
   rintro x w4 ⟨c,b',sv',rfl,hcase,H3,T3,F3⟩
   obtain ⟨hA4,hT4⟩:=HA3.out.book H3 T3 F3
   have hT4':RTurn w w4 ph sv cv lv sv' cv lv:=(RTurn.of_below HB3.out).trans hT4
   have HF:Hid (RDoP w B ph sv cv lv h D (.returned (.tuple #[.string ⟨#[118,111,105,100,101,100]⟩,.int .i64 c])) w4):=by
    have hD2:=HPD.out
    show RDoP _ _ _ _ _ _ _ _ _ _
    rcases hcase with ⟨hc,hk,hb'⟩ | ⟨hc,hk,hb'⟩
    ·rw [if_pos hk] at hD2
     rw [hb'] at hA4
     rw [hD2,hc]
     exact ⟨_,sv',cv,rfl,fun e=>absurd (show (7:Int)=0 from e) (by decide),hA4,hT4'⟩
    ·rw [if_neg hk] at hD2
     rw [hb'] at hA4
     rw [hD2,hc]
     exact ⟨_,sv',cv,rfl,fun _=>rfl,hA4,hT4'⟩
   clear hcase H3 T3 F3 hV hA4 hT4 hT4' HPD HA3
   go_wp2
   go_ret2
   exact HF.out
 rw [decide_eq_false h3] at t3
 unfold wVoid at t3
 by_cases h4:a=wClose
 ·have HD:Hid (D=closeD h.bk h.cs b):=by show _=_;rw [HDD.out];unfold deedD;rw [if_neg h1,if_neg h2,if_neg h3,if_pos h4]
  rw [decide_eq_true h4] at t4
  unfold wClose at t4
  clear h1 h2 h3 h4 HDD
  obtain ⟨av,hav⟩:∃ t,t=ba a:=⟨_,rfl⟩
  rw [← hav] at t1 t2 t3 t4 hza ⊢
  clear hav
  have hdz:(ba b ++ tDay1).size=b.length + 3:=by rw [ByteArray.size_append,hzb];rfl
  have hde:(ba b ++ tDay1).data.toList=b ++ [45,48,49]:=by rw [day1_app,ba_data]
  rcases he:dparsed (b ++ [45,48,49]) with _ | n
  ·have HPD:Hid (D=ddE h.bk h.cs 3):=by show _=_;rw [HD.out];unfold closeD;rw [he]
   have HF:Hid (∀ w',Below w.heap.size w w'→RDoP w B ph sv cv lv h D (.returned (.tuple #[.string ⟨#[]⟩,.int .i64 3])) w'):=fun w' hb=>by rw [HPD.out];exact rdo_none HA.out hb 3 (by decide) _
   have hP:=rparse_bad (ba b ++ tDay1) W1 (HGL.out.below HB1.out) (by omega) (by rw [hde];exact he)
   unfold tDay1 at hP
   clear he hdz hde
   go_wp2_with fail
   refine hP.mono ?_
   rintro x w2 ⟨rfl,hb2⟩
   have hF:=HF.out w2 (HB1.out.trans (hb2.mono HB1.out.size))
   clear hP HF
   go_wp2
   go_ret2
   exact hF
  ·have hP:=rparse_ok (ba b ++ tDay1) n W1 (HGL.out.below HB1.out) (by rw [hde];exact he)
   have hds:=dparsed_some he
   have HM:=fun W=>rmonth_ok n W hds.2.1 hds.2.2.1
   have HE:=hidN he
   unfold tDay1 at hP
   clear he hdz hde hds
   go_wp2_with fail
   refine hP.mono ?_
   rintro x w2 ⟨rfl,hb2⟩
   have HB2:Hid (Below w.heap.size w w2):=HB1.out.trans (hb2.mono HB1.out.size)
   have hbx2:=below_cell hb2 HBX.out
   clear hP
   go_wp2_with fail
   refine (HM _).mono ?_
   rintro x w3 ⟨rfl,hw3⟩
   subst w3
   clear HM
   have HCL:=fun (W:World) (aW:RhAt W B ph sv cv lv h) (hb:Below w.heap.size w W)=>hidN (rclosed_any aW HO.out (HG.out.below hb).glob.ev.num (dK n:Int))
   have HBX2:=hidN hbx2
   have HNM:Hid (∀ k,RMine ph sv cv lv k→k < w.heap.size):=fun k hk=>(HA.out.mine hk).2
   clear hbx2
   go_upto_region 39 with fail
   go_cut [20,23] (fun s20 s23 wx=>RCloP w B ph sv cv lv h n s20 s23 wx)
   case first=>
    go_wp2_with fail
    refine wp_region_preG (SameAt bx) [(true,0),(false,1),(false,2),(true,3),(false,4),(false,5),(false,6)] [] 7 (sameAt_refl bx) (sameAt_trans bx) (by kernel_rfl) (by kernel_rfl) ?_
    have hA:=anyW_ne
    have hU:=upK_ne bx
    obtain ⟨W3,hW3⟩:∃ W,W=w2.drew:=⟨_,rfl⟩
    rw [← hW3]
    have hb3':Below w2.heap.size w2 W3:=by rw [hW3];exact below_drew _
    have hb3:Below w.heap.size w W3:=HB2.out.trans (hb3'.mono HB2.out.size)
    have hbx3:=below_cell hb3' HBX2.out
    have y0:=fun q:UpK (SameAt bx) W3=>q.cell hbx3
    have hbl3:bx < W3.heap.size:=World.block_lt_of_cell? _ _ hbx3
    have hwbx:=HBXL.out.1
    clear hW3 hb3'
    repeat (first | refine preG_p rfl ?_ | refine preG_q rfl ?_);go_big_quiet_step (fail);refine wpQuiet_nil ?_
    refine preG_nil ?_
    clear y0
    refine anyG_all [7,11] (by kernel_rfl) ?_
    intro i hi2
    have hi3:i=7∨i=11:=by simpa using hi2
    clear hi2
    rcases hi3 with rfl | rfl
    ·have hC:=(HCL W3 (HA.out.below hb3) hb3).out
     refine eOpG_keep rfl ?_
     go_wp2_with fail
     refine hC.mono ?_
     rintro x w4 ⟨F,c,cs',cv',rfl,hd,hA4,hT4⟩
     have hsm:SameAt bx W3 w4:=hT4.block bx hbl3 (fun hm=>by have:=HNM.out bx hm;omega)
     have HSM:=hidN hsm
     have hT4':RTurn w w4 ph sv cv lv sv cv' lv:=(RTurn.of_below hb3).trans hT4
     have HD4:=hidN hd
     have HA4:=hidN hA4
     have HT4:=hidN hT4'
     have hbl4:bx < w4.heap.size:=Nat.lt_of_lt_of_le hbl3 hT4.size
     clear hC hd hA4 hT4 hT4' HCL hsm
     go_wp2_with fail
     refine ⟨rfl,HSM.out,?_⟩
     refine wpAnyG_pre (sameAt_refl bx) (sameAt_trans bx) (by kernel_rfl) 3 [(false,8),(false,9),(false,10)] _ _ _ (by kernel_rfl) ?_
     obtain ⟨F1,F2,F3,F4,F5⟩:=F
     unfold figV
     simp only
     repeat (refine preG_p rfl ?_;go_big_quiet_step (fail);refine wpQuiet_nil ?_)
     refine preG_nil ?_
     refine anyG_all [11] (by kernel_rfl) ?_
     intro i hi2
     obtain rfl:i=11:=by simpa using hi2
     clear hi2
     obtain ⟨W5,hW5⟩:∃ W,W=w4.alloc (.cells #[.int .i64 0,.int .i64 0,.int .i64 0,.int .i64 0,.int .i64 0] 38):=⟨_,rfl⟩
     have hb5:Below w4.heap.size w4 W5:=by rw [hW5];exact (Below.refl _ _).alloc (Nat.le_refl _) _
     have HSM5:Hid (SameAt bx w4 W5):=hb5.block bx hbl4
     have HW5:Hid (W5=_):=hW5
     have hF5:FigAt W5 w4.heap.size fig0:=by rw [hW5];exact fig_new w4
     rw [hW5] at HSM5
     clear hW5
     refine eOpG_keep rfl ?_
     go_wp2_with fail
     refine ⟨rfl,HSM5.out,?_⟩
     rw [← HW5.out]
     refine anyG_all [12] (by kernel_rfl) ?_
     intro i hi2
     obtain rfl:i=12:=by simpa using hi2
     clear hi2
     have HP:Hid (RCloP w B ph sv cv lv h n (.int .i64 c) (.pointer (some ⟨w4.heap.size,0,none⟩)) (set5 W5 w4.heap.size ⟨F1,F2,F3,F4,F5⟩)):=
      rclo_put hF5 (fun hm=>by have:=(HA4.out.mine hm).2;omega) HT4.out.size HD4.out (HA4.out.below hb5) (HT4.out.trans (RTurn.of_below hb5))
     have HSM6:Hid (SameAt bx W5 (set5 W5 w4.heap.size ⟨F1,F2,F3,F4,F5⟩)):=set5_other _ _ _ (by omega)
     obtain ⟨d0,d1,d2,d3,d4,e0,e1,e2,e3,e4⟩:=hF5
     simp only [fig0] at d0 d1 d2 d3 d4
     clear HW5 hb5 HD4 HA4 HT4 HSM HSM5
     refine eOpG_keep rfl ?_
     go_wp2_with fail
     refine ⟨rfl,HSM6.out,?_⟩
     refine wpAnyG_pre (sameAt_refl bx) (sameAt_trans bx) (by kernel_rfl) 0 [(false,13)] _ _ _ (by kernel_rfl) ?_
     repeat (refine preG_p rfl ?_;go_big_quiet_step (fail);refine wpQuiet_nil ?_)
     refine preG_nil ?_
     refine anyG_nil (by kernel_rfl) ?_
     go_wp2
     go_meet
     case rel=>exact HP.out
    ·obtain ⟨W4,hW4⟩:∃ W,W=W3.alloc (.cells #[.int .i64 0,.int .i64 0,.int .i64 0,.int .i64 0,.int .i64 0] 38):=⟨_,rfl⟩
     have hb4':Below W3.heap.size W3 W4:=by rw [hW4];exact (Below.refl _ _).alloc (Nat.le_refl _) _
     have hb4:Below w.heap.size w W4:=hb3.trans (hb4'.mono hb3.size)
     have hF4:FigAt W4 W3.heap.size fig0:=by rw [hW4];exact fig_new W3
     have HSM4:Hid (SameAt bx W3 W4):=hb4'.block bx hbl3
     have HW4:Hid (W4=_):=hW4
     rw [hW4] at HSM4
     clear hW4
     refine eOpG_keep rfl ?_
     go_wp2_with fail
     refine ⟨rfl,HSM4.out,?_⟩
     rw [← HW4.out]
     have hC:=(HCL W4 (HA.out.below hb4) hb4).out
     have hs3:=hb3.size
     have hbl4:bx < W4.heap.size:=Nat.lt_of_lt_of_le hbl3 hb4'.size
     obtain ⟨fb,hfb⟩:∃ n,n=W3.heap.size:=⟨_,rfl⟩
     rw [← hfb] at hs3 hF4 hbl3
     rw [← hfb]
     clear hfb hb4' HW4 HSM4
     refine anyG_all [7] (by kernel_rfl) ?_
     intro i hi2
     obtain rfl:i=7:=by simpa using hi2
     clear hi2
     refine eOpG_keep rfl ?_
     go_wp2_with fail
     refine hC.mono ?_
     rintro x w5 ⟨F,c,cs',cv',rfl,hd,hA5,hT5⟩
     have HSM5:Hid (SameAt bx W4 w5):=hT5.block bx hbl4 (fun hm=>by have:=HNM.out bx hm;omega)
     have hT5':RTurn w w5 ph sv cv lv sv cv' lv:=(RTurn.of_below hb4).trans hT5
     have hF5:FigAt w5 fb fig0:=hF4.same (hT5.block fb hF4.lt (fun hm=>by have:=HNM.out fb hm;omega))
     have HP:Hid (∀ F',DoesC h.bk h.cs (dK n:Int) c F' cs'→RCloP w B ph sv cv lv h n (.int .i64 c) (.pointer (some ⟨fb,0,none⟩)) (set5 w5 fb F')):=fun F' hd'=>
      rclo_put hF5 (fun hm=>by
       rcases hT5.fresh fb hm with x | x
       ·have:=HNM.out fb x;omega
       ·have:=hF4.lt;omega) hs3 hd' hA5 hT5'
     obtain ⟨F1,F2,F3',F4,F5⟩:=F
     have HP2:=hidN (HP.out _ hd)
     have HSM6:Hid (SameAt bx w5 (set5 w5 fb ⟨F1,F2,F3',F4,F5⟩)):=set5_other _ _ _ (by omega)
     obtain ⟨d0,d1,d2,d3,d4,e0,e1,e2,e3,e4⟩:=hF5
     simp only [fig0] at d0 d1 d2 d3 d4
     unfold figV
     simp only
     clear hC hd hA5 hT5 hT5' HCL hF4 HP hb4
     go_wp2_with fail
     refine ⟨rfl,HSM5.out,?_⟩
     refine wpAnyG_pre (sameAt_refl bx) (sameAt_trans bx) (by kernel_rfl) 2 [(false,8),(false,9),(false,10)] _ _ _ (by kernel_rfl) ?_
     repeat (refine preG_p rfl ?_;go_big_quiet_step (fail);refine wpQuiet_nil ?_)
     refine preG_nil ?_
     refine anyG_all [12] (by kernel_rfl) ?_
     intro i hi2
     obtain rfl:i=12:=by simpa using hi2
     clear hi2
     refine eOpG_keep rfl ?_
     go_wp2_with fail
     refine ⟨rfl,HSM6.out,?_⟩
     refine wpAnyG_pre (sameAt_refl bx) (sameAt_trans bx) (by kernel_rfl) 0 [(false,13)] _ _ _ (by kernel_rfl) ?_
     repeat (refine preG_p rfl ?_;go_big_quiet_step (fail);refine wpQuiet_nil ?_)
     refine preG_nil ?_
     refine anyG_nil (by kernel_rfl) ?_
     go_wp2
     go_meet
     case rel=>exact HP2.out
   case rest=>
    obtain ⟨fb,F,c,cs',cv',rfl,rfl,hF,hd,hA,hT⟩:=hcut
    have hcl:=close_is HE.out hd
    have hpl:=postL_len F
    have hpo:=rpost_any F wc
    obtain ⟨N,hN⟩:∃ N,N=(postL F).length:=⟨_,rfl⟩
    rw [← hN] at hpl hpo hcl
    have HGR:Hid (Ground B wc):=HG.out.rturn HA.out hT
    have HIT:=fun (W:World) (g:Ground B W)=>hidN (itoaN (N:Int) W g.glob.ev.num (by omega) (by omega))
    obtain ⟨t1,ht1⟩:∃ t,t=eb (Lib.itoa (N:Int)):=⟨_,rfl⟩
    have hz1:t1.size≤20:=by rw [ht1];exact itoa_size _ (by omega) (by omega)
    have HTX:Hid (tClosedB ++ t1=ba (tClosed ++ Lib.itoa (N:Int))):=by
     show _=_
     rw [ht1,← ba_app];rfl
    rw [← ht1] at HIT
    have HF:Hid (∀ w',Below wc.heap.size wc w'→RDoP w B ph sv cv lv h D (.returned (.tuple #[.string (ba (tClosed ++ Lib.itoa (N:Int))),.int .i64 c])) w'):=fun w' hb=>by
     have hD2:=HD.out
     rcases hcl with ⟨e1,hc,e2⟩ | ⟨hc,e1⟩
     ·rw [e1] at hD2
      rw [e2] at hA
      rw [hD2]
      exact ⟨_,sv,cv',rfl,fun e=>absurd (show c=0 from e) (by omega),hA.below hb,hT.trans (RTurn.of_below hb)⟩
     ·rw [e1] at hD2
      rw [hD2,hc]
      exact ⟨_,sv,cv',rfl,fun _=>rfl,hA.below hb,hT.trans (RTurn.of_below hb)⟩
    unfold tClosedB at HTX
    obtain ⟨F1,F2,F3,F4,F5⟩:=F
    obtain ⟨d0,d1,d2,d3,d4,e0',e1',e2',e3',e4'⟩:=hF
    simp only at d0 d1 d2 d3 d4
    unfold figV at hpo
    simp only at hpo
    clear hd hA hT HCL ht1 hN hcl
    go_wp2_with fail
    refine hpo.mono ?_
    rintro x w5 ⟨v,rfl,hown,hb5⟩
    obtain ⟨ad,cap,hv⟩:∃ ad cap,v = .slice ad N cap:=own_lenN hown
    subst hv
    have hI:=(HIT w5 (HGR.out.below hb5)).out
    clear hpo hown d0 d1 d2 d3 d4 e0' e1' e2' e3' e4'
    go_wp2_with fail
    refine hI.mono ?_
    rintro x w6 ⟨rfl,hb6⟩
    have HFN:=hidN (HF.out w6 (hb5.trans (hb6.mono hb5.size)))
    have e1:=HTX.out
    clear hI HF
    go_wp2
    go_ret2
    exact HFN.out
 ·have HPD:Hid (D=ddE h.bk h.cs 3):=by show _=_;rw [HDD.out];unfold deedD;rw [if_neg h1,if_neg h2,if_neg h3,if_neg h4]
  have HF:Hid (RDoP w B ph sv cv lv h D (.returned (.tuple #[.string ⟨#[]⟩,.int .i64 3])) W1):=by show RDoP _ _ _ _ _ _ _ _ _ _;rw [HPD.out];exact rdo_none HA.out HB1.out 3 (by decide) _
  rw [decide_eq_false h4] at t4
  unfold wClose at t4
  clear h1 h2 h3 h4 HDD HPD
  obtain ⟨av,hav⟩:∃ t,t=ba a:=⟨_,rfl⟩
  rw [← hav] at t1 t2 t3 t4 hza ⊢
  clear hav
  go_wp2
  go_ret2
  exact HF.out
def RDP (w:World) (B ph:Nat) (sv cv lv:Value) (R:Rs) (r:Ending) (w':World):Prop:=
 ∃ sv' cv' lv',r = .returned (.tuple #[.string (ba R.told),.int .i64 R.c])∧RhAt w' B ph sv' cv' lv' R.h∧RTurn w w' ph sv cv lv sv' cv' lv'
theorem rdoes_any {w:World} {B ph:Nat} {sv cv lv:Value} {h:Hs} (A:RhAt w B ph sv cv lv h) (l:List UInt8) (hs:l.length≤1000) (ho:HsOk h) (hn:h.ls.length≤10000) (hg:Ground B w) (het:Glob w) :
  Calls Tryz.prog 22 #[.pointer (some ⟨ph,0,none⟩),.string (ba l)] w (RDoP w B ph sv cv lv h (if 200 < l.length then ddE h.bk h.cs 3 else deedD h.bk h.cs (cutL l).1 (cutL l).2)):=by
 by_cases h2:200 < l.length
 ·rw [if_pos h2];exact rdoes_none A l hs (Or.inl h2)
 ·rw [if_neg h2]
  rcases cut_cases l with ⟨h3,h4⟩ | ⟨a,b,h3,h4,h5⟩
  ·rw [h4,deed_noblank];exact rdoes_none A l hs (Or.inr h3)
  ·rw [h5,h3];exact rdoes_some A a b (by rw [← h3];omega) h4 ho hn hg het
set_option maxRecDepth 20000 in
set_option maxHeartbeats 8000000 in
theorem rdo_any {w:World} {B ph:Nat} {sv cv lv:Value} {h:Hs} (A:RhAt w B ph sv cv lv h) (l:List UInt8) (hs:l.length≤1000) (ho:HsOk h) (hn:h.ls.length≤10000) (hg:Ground B w) (het:Glob w) :
  Calls Tryz.prog 7 #[.pointer (some ⟨ph,0,none⟩),.string (ba l)] w (RDP w B ph sv cv lv (doH h l)):=by
 obtain ⟨i0,hi,hz0,hz1,hz2⟩:=info_parts Tryz.infoStrJ
 have hd:=rdoes_any A l hs ho hn hg het
 obtain ⟨D,hD⟩:∃ D,D=if 200 < l.length then ddE h.bk h.cs 3 else deedD h.bk h.cs (cutL l).1 (cutL l).2:=⟨_,rfl⟩
 rw [← hD] at hd
 have HR:Hid (doH h l=if D.c=0 then ⟨D.told,0,D.bk,D.cs,h.ls ++ [l]⟩ else ⟨[],D.c,h⟩):=by
  show _=_
  unfold doH
  by_cases h2:200 < l.length
  ·rw [if_pos h2] at hD ⊢;rw [hD];rfl
  ·rw [if_neg h2] at hD ⊢;rw [hD]
 have HE:Hid (D.c ≠ 0→D.bk=h.bk∧D.cs=h.cs):=by
  rw [hD]
  split
  ·exact fun _=>⟨rfl,rfl⟩
  ·exact deed_err
 have HA:=hidE A
 clear A hD ho hg het
 go_enter Tryz.func7,Tryz.ntmps7
 go_wp2_with fail
 refine hd.mono ?_
 rintro x w1 ⟨t,sv',cv',rfl,htl,hA1,hT1⟩
 clear hd
 by_cases hc:D.c=0
 ·have htt:=htl hc
  subst htt
  rw [hc]
  have HRR:Hid (doH h l=⟨D.told,0,D.bk,D.cs,h.ls ++ [l]⟩):=by show _=_;rw [HR.out,if_pos hc]
  have HA1:=hidE hA1
  have HT1:=hidE hT1
  have hcl:=hA1.cl
  have hfr:w1.frozen? ⟨ph,9,none⟩=false:=hA1.pr.fz 9
  obtain ⟨ad,lcap,hlv⟩:∃ ad cp,lv = .slice ad h.ls.length cp:=by
   rcases own_form hA1.ln with ⟨hv,hn',_⟩ | ⟨g,cp,hv,_⟩
   ·exact ⟨none,0,by rw [hv];simp only at hn';rw [hn']⟩
   ·exact ⟨_,_,hv⟩
  subst hlv
  clear htl hA1 hT1 hc HR HE
  have hge:=HA1.out.bk.ge
  have hlt:=HA1.out.lt
  go_wp2_with (first
   | (at_builtin;refine wpList_append_new _ rfl _ _ 22 rfl B 9 i0 (.string ⟨#[]⟩) 1 16 Tryz.underlying22 hi hz0 hz1 hz2 rfl (by decide) _ _ _ rfl (HA1.out.ln.alloc _) ⟨w1.heap.size,0,none⟩ 1 1 [encS l] rfl rfl ?d1 ?d2 ?d3 ?d4 ?d5 (by decide) ?_)
   | go_in)
  case d1=>exact cells_of_list rfl
  case d2=>intro u hu;simp only [List.mem_singleton] at hu;subst hu;rfl
  case d3=>unfold maxLen;omega
  case d4=>omega
  case d5=>simp;omega
  intro v' w5 hown5 hgr5 hfr5
  have hbA:Below w1.heap.size w1 (w1.alloc (.cells #[.string (ba l)] 9)):=(Below.refl _ _).alloc (Nat.le_refl _) _
  obtain ⟨⟨k0,z0⟩,hA5,hT5⟩:=HA1.out.line hbA hown5 hgr5 hfr5
  have HF:Hid (RDP w B ph sv cv (.slice ad h.ls.length lcap) (doH h l) (.returned (.tuple #[.string (ba D.told),.int .i64 0])) (w5.setCell ⟨ph,9,none⟩ v')):=by
   show RDP _ _ _ _ _ _ _ _ _
   rw [HRR.out]
   exact ⟨sv',cv',v',rfl,hA5,HT1.out.trans hT5⟩
  obtain ⟨g2,cap2,hv2⟩:∃ g cap,v' = .slice (some ⟨g,0,none⟩) (h.ls.length + 1) cap:=by
   rcases own_form hown5 with ⟨_,hn',_⟩ | ⟨g,cap,hv,_⟩
   ·omega
   ·exact ⟨g,cap,hv⟩
  subst hv2
  clear hbA hA5 hT5 hown5 hgr5 hfr5 HA1 HT1 hcl hfr
  go_wp2
  go_ret2
  exact HF.out
 ·have HRR:Hid (doH h l=⟨[],D.c,h⟩):=by show _=_;rw [HR.out,if_neg hc]
  have HF:Hid (RDP w B ph sv cv lv (doH h l) (.returned (.tuple #[.string ⟨#[]⟩,.int .i64 D.c])) w1):=by
   obtain ⟨e1,e2⟩:=HE.out hc
   show RDP _ _ _ _ _ _ _ _ _
   rw [HRR.out]
   rw [e1,e2] at hA1
   exact ⟨sv',cv',lv,rfl,hA1,hT1⟩
  have hc':D.c ≠ 0:=hc
  clear htl hA1 hT1 HR HE HRR
  go_wp2
  go_ret2
  exact HF.out
def RRestP (ls:List (List UInt8)) (w:World) (e:Ending) (w':World):Prop:=
  ((GoodL ls∧∃ ph sv cv lv,e = .returned (.tuple #[.pointer (some ⟨ph,0,none⟩),.int .i64 (ls.length:Nat),.int .i64 0])∧RhAt w' w.heap.size ph sv cv lv (runH ls)) ∨
   (¬ GoodL ls∧e = .returned (.tuple #[.pointer none,.int .i64 0,.int .i64 3])))∧Below w.heap.size w w'
set_option maxRecDepth 20000 in
set_option maxHeartbeats 8000000 in
theorem rrestore_any (s:ByteArray) (ls:List (List UInt8)) (w:World) (hg:GlobH w) (het:Glob w) (hs:s.size≤100000) (hrd0:Rd 0 s.data.toList ls) :
    Calls Tryz.prog 15 #[.string s] w (RRestP ls w):=by
  have HR:=rread_any s w hs
  have HRD:=hidE hrd0
  have HG:=hidE hg
  have HET:=hidE het
  clear hrd0 hg het
  go_enter Tryz.func15,Tryz.ntmps15
  go_wp2_with fail
  refine HR.mono ?_
  rintro e w1 ⟨v,ls',rfl,hrd,htl,hown,hb1⟩
  obtain rfl:ls'=ls:=hrd.same HRD.out
  obtain ⟨ao,cap,rfl,hcap,hst⟩:=strs_of_own hown
  have hsm:=rd_small hrd
  have hll:ls'.length≤100001:=by
    rcases hsm.2 with h | h
    · rw [h];simp
    · omega
  have H200:Hid (∀ t ∈ ls',t.length≤200):=hsm.1
  have hlen:16 * ls'.length≤100000:=by
    have h1:=tot_ge ls'
    rw [size_data] at htl
    omega
  obtain ⟨W2,hW2⟩:∃ W,W=w1.alloc (.cells #[.slice none 0 0,.int .i64 0,.int .i64 0,.slice none 0 0,.int .i64 0,.int .i64 0,.int .i64 0,.int .i64 0,.int .i64 0,.slice none 0 0] 42):=⟨_,rfl⟩
  have hA2:RhAt W2 w1.heap.size w1.heap.size (.slice none 0 0) (.slice none 0 0) (.slice none 0 0) hs0:=by rw [hW2];exact rhouse_new w1 _ (Nat.le_refl _)
  have hb2:Below w1.heap.size w1 W2:=by rw [hW2];exact (Below.refl _ _).alloc (Nat.le_refl _) _
  have HST:Hid (StrsC w1 ao ls'):=hst
  have HW2:Hid (W2=_):=hW2
  have HB1:Hid (Below w.heap.size w w1):=hb1
  have hs1:=hb1.size
  clear hW2 HR hown hst hsm htl hrd hb1 HRD
  go_wp2_with fail
  rw [← HW2.out]
  go_loopw [21] (fun i wr=>∃ k:Nat,k≤ls'.length∧i = .int .i64 k∧Hid (GoodL (ls'.take k))∧(∃ sv cv lv,Hid (RhAt wr w1.heap.size w1.heap.size sv cv lv (runH (ls'.take k))))∧Hid (Below w1.heap.size w1 wr)) (fun i _=>ls'.length - (intOf i).toNat)
  case atStart=>exact ⟨0,Nat.zero_le _,rfl,good_nil,⟨_,_,_,hA2⟩,hb2⟩
  case round=>
    obtain ⟨k,hk,rfl,HGO,⟨sv,cv,lv,HAT⟩,HBL⟩:=hrel
    by_cases hlt:k < ls'.length
    · obtain ⟨b,o,e1,lt1,c1⟩:=HST.out.below HBL.out (by omega)
      subst e1
      have d1:=c1 k hlt
      have hmem:ls'[k] ∈ ls':=List.getElem_mem hlt
      have ht2:=H200.out _ hmem
      have HTK:Hid (ls'.take (k + 1)=ls'.take k ++ [ls'[k]]):=by show _=_;rw [List.take_succ_eq_append_getElem hlt]
      have hrl:(runH (ls'.take k)).ls.length=k:=by
        rw [run_ls _ _ rfl HGO.out,List.length_take];omega
      have hok:=ok_run _ (ls'.take k) rfl (by rw [List.length_take];omega) HGO.out
      have hgr:Ground w1.heap.size wr:=⟨w1,HG.out.below HB1.out,Nat.le_refl _,HBL.out⟩
      have hdo:=rdo_any HAT.out ls'[k] (by omega) hok (by omega) hgr (HET.out.below (HB1.out.trans (HBL.out.mono HB1.out.size)))
      obtain ⟨t,ht⟩:∃ t,t=ls'[k]:=⟨_,rfl⟩
      have HTE:=hidE ht
      rw [← ht] at d1 hdo HTK
      unfold encS at d1
      clear c1 ht hmem ht2 hok hgr hrl
      go_wp2_with fail
      refine hdo.mono ?_
      rintro x w4 ⟨sv',cv',lv',rfl,hA4,hT4⟩
      have hB4:Below w1.heap.size w1 w4:=hT4.below HAT.out HBL.out HBL.out.size
      have HA4:=hidE hA4
      have HB4:=hidE hB4
      clear hdo hA4 hT4 hB4 d1
      by_cases hc:(doH (runH (ls'.take k)) t).c=0
      · rw [hc]
        have HC:=hidE hc
        clear hc
        go_wp2
        go_roundw
        case rel=>
          refine ⟨k + 1,by omega,by go_num,?_,⟨sv',cv',lv',?_⟩,HB4⟩
          · show GoodL _
            rw [HTK.out];exact good_snoc HGO.out HC.out
          · show RhAt _ _ _ _ _ _ _
            rw [HTK.out,run_snoc];exact HA4.out
        case measure=>simp [intOf];omega
      · have HNG:Hid (¬ GoodL ls'):=fun hgd=>by
          have:=hgd k hlt
          rw [← HTE.out] at this
          exact hc this
        have HFB:Hid (Below w.heap.size w w4):=HB1.out.trans (HB4.out.mono HB1.out.size)
        go_wp2
        refine bodyPost_ret (v:=.tuple #[.pointer none,.int .i64 0,.int .i64 3]) (by simp [results,Tryz.results15,go_sem]) rfl ?_
        exact ⟨Or.inr ⟨HNG.out,rfl⟩,HFB.out⟩
    · obtain rfl:k=ls'.length:=by omega
      have hgo:=HGO.out
      have hat:=HAT.out
      rw [List.take_length] at hgo hat
      have HGO2:=hidE hgo
      have HAT2:Hid (RhAt wr w.heap.size w1.heap.size sv cv lv (runH ls')):=hat.mono hs1
      have HFB:Hid (Below w.heap.size w wr):=HB1.out.trans (HBL.out.mono HB1.out.size)
      clear hgo hat HGO HAT
      go_wp2
      refine bodyPost_ret (v:=.tuple #[.pointer (some ⟨w1.heap.size,0,none⟩),.int .i64 (ls'.length:Nat),.int .i64 0]) (by simp [results,Tryz.results15,go_sem]) rfl ?_
      exact ⟨Or.inl ⟨HGO2.out,_,sv,cv,lv,rfl,HAT2.out⟩,HFB.out⟩
set_option maxRecDepth 20000 in
set_option maxHeartbeats 4000000 in
theorem same_any {B1 B2:Nat} {va vb:Value} {l:List Ev} {w:World} (h1:w.ownsRow B1 78 7 va l.length (l.flatMap evC)) (h2:w.ownsRow B2 78 7 vb l.length (l.flatMap evC)) (hl:l.length≤1000000) :
  Calls Tryz.prog 12 #[va,vb] w fun e w'=>e = .returned (.bool true)∧Below w.heap.size w w':=by
 by_cases h0:l.length=0
 ·obtain ⟨a1,c1,rfl⟩:=own_len h1
  obtain ⟨a2,c2,rfl⟩:=own_len h2
  rw [h0]
  clear h1 h2
  go_enter Tryz.func12,Tryz.ntmps12
  go_wp2
  refine wp_loop_rounds 1 ?_
  rw [rounds_succ]
  go_wp2
  go_ret
  exact ⟨rfl,Below.refl _ _⟩
 ·obtain ⟨g1,c1,e1,hg1⟩:∃ g cap,va = .slice (some ⟨g,0,none⟩) l.length cap∧g < w.heap.size:=by
   rcases own_form h1 with ⟨_,hn,_⟩ | ⟨g,cap,e,_,hg,_⟩
   ·exact absurd hn h0
   ·exact ⟨g,cap,e,hg⟩
  obtain ⟨g2,c2,e2,hg2⟩:∃ g cap,vb = .slice (some ⟨g,0,none⟩) l.length cap∧g < w.heap.size:=by
   rcases own_form h2 with ⟨_,hn,_⟩ | ⟨g,cap,e,_,hg,_⟩
   ·exact absurd hn h0
   ·exact ⟨g,cap,e,hg⟩
  subst e1 e2
  have H1:Hid (w.ownsRow _ _ _ _ _ _):=h1
  have H2:Hid (w.ownsRow _ _ _ _ _ _):=h2
  clear h1 h2 h0
  go_enter Tryz.func12,Tryz.ntmps12
  go_wp2
  go_loopw [5] (fun i wr=>∃ k:Nat,k≤l.length∧i = .int .i64 k∧Hid (Below w.heap.size w wr)) (fun i _=>l.length - (intOf i).toNat)
  case atStart=>exact ⟨0,Nat.zero_le _,rfl,Below.refl _ _⟩
  case round=>
   obtain ⟨k,hk,rfl,HB⟩:=hrel
   by_cases hlt:k < l.length
   ·obtain ⟨x,hx⟩:∃ x,x=l[k]:=⟨_,rfl⟩
    have hp:∀ j,j < 7→wr.cell? ⟨g1,k * 7 + j,none⟩=(evC x)[j]?:=fun j hj=>by
     rw [HB.out.cell (p:=⟨g1,k * 7 + j,none⟩) hg1,(own_cell evC_len H1.out k j hlt hj).1,hx]
    have hq:∀ j,j < 7→wr.cell? ⟨g2,k * 7 + j,none⟩=(evC x)[j]?:=fun j hj=>by
     rw [HB.out.cell (p:=⟨g2,k * 7 + j,none⟩) hg2,(own_cell evC_len H2.out k j hlt hj).1,hx]
    clear hx
    obtain ⟨id2,item,kind,qty,price,ofI,day⟩:=x
    have p0:=hp 0 (by omega)
    have p1:=hp 1 (by omega)
    have p2:=hp 2 (by omega)
    have p3:=hp 3 (by omega)
    have p4:=hp 4 (by omega)
    have p5:=hp 5 (by omega)
    have p6:=hp 6 (by omega)
    have q0:=hq 0 (by omega)
    have q1:=hq 1 (by omega)
    have q2:=hq 2 (by omega)
    have q3:=hq 3 (by omega)
    have q4:=hq 4 (by omega)
    have q5:=hq 5 (by omega)
    have q6:=hq 6 (by omega)
    simp only [evC,List.getElem?_cons_zero,List.getElem?_cons_succ,Nat.add_zero] at p0 p1 p2 p3 p4 p5 p6 q0 q1 q2 q3 q4 q5 q6
    clear hp hq
    have hkz:(k:Int) < (l.length:Int):=by omega
    go_wp2
    go_quiet (fail)
    have HB2:Hid (Below w.heap.size w (wr.drewN nq)):=HB.out.trans ⟨rfl,rfl,rfl,Nat.le_refl _,fun _ _=>rfl⟩
    clear p0 p1 p2 p3 p4 p5 p6 q0 q1 q2 q3 q4 q5 q6
    go_wp2
    go_roundw
    case rel=>exact ⟨k + 1,by omega,by go_num,HB2⟩
    case measure=>simp [intOf];omega
   ·have hkz:¬ (k:Int) < (l.length:Int):=by omega
    go_wp2
    go_ret
    exact ⟨rfl,HB.out⟩
end Go.Proofs.YtdkhohlhdiekmaaGreatDoor
namespace Go.Proofs.YtdkhohlhdiekmaaGreatDoor
open Go.RowKit
theorem hjour_any {w:World} {B ph:Nat} {sv cv:Value} {h:Hs} (a:HsAt w B ph sv cv h) :
  Calls Tryz.prog 10 #[.pointer (some ⟨ph,0,none⟩)] w fun e w'=>e = .returned (.string (ba (framesL 0 h.ls)))∧w'=w:=by
 have cj:=a.cj
 clear a
 go_enter Tryz.func10,Tryz.ntmps10
 go_wp2
 go_ret
 exact ⟨rfl,rfl⟩
theorem do_cnt (h:Hs) (l:List UInt8):(doH h l).h.ls.length≤h.ls.length + 1:=by
 by_cases hc:(doH h l).c=0
 ·rw [(do_ok hc).1];simp
 ·rw [(do_err hc).1];omega
theorem rd_ex:∀ (m n:Nat) (r:List UInt8),r.length≤m→∃ ls,Rd n r ls
 | 0,n,r,h=>⟨[],.none (not_heads_short (by omega))⟩
 | m + 1,n,r,h=>by
  by_cases hh:∃ t,Heads n t r
  ·obtain ⟨t,ht⟩:=hh
   have hl:=ht.len
   obtain ⟨ls,hr⟩:=rd_ex m (n + 1) (r.drop (16 + t.length)) (by rw [List.length_drop];omega)
   exact ⟨_,.some ht hr⟩
  ·exact ⟨[],.none fun t ht=>hh ⟨t,ht⟩⟩
structure TwoR (w:World) (B p1 p2:Nat) (s1 c1 s2 c2 l2:Value) (h1 h2:Hs):Prop where
 a1:HsAt w B p1 s1 c1 h1
 a2:RhAt w B p2 s2 c2 l2 h2
 ap:∀ k,Mine p1 s1 c1 k→¬ RMine p2 s2 c2 l2 k
section
variable {w w':World} {B p1 p2:Nat} {s1 c1 s2 c2 l2 s1' c1' s2' c2' l2':Value} {h1 h2 h1' h2':Hs}
theorem TwoR.below (t:TwoR w B p1 p2 s1 c1 s2 c2 l2 h1 h2) (hb:Below w.heap.size w w'):TwoR w' B p1 p2 s1 c1 s2 c2 l2 h1 h2:=⟨t.a1.below hb,t.a2.below hb,t.ap⟩
theorem TwoR.first (t:TwoR w B p1 p2 s1 c1 s2 c2 l2 h1 h2) (a:HsAt w' B p1 s1' c1' h1') (u:HTurn w w' p1 s1 c1 s1' c1'):TwoR w' B p1 p2 s1' c1' s2 c2 l2 h1' h2:=
 ⟨a,t.a2.same fun k hk=>u.block k (t.a2.mine hk).2 (fun hm=>t.ap k hm hk),fun k hk hm=>by
  rcases u.fresh k hk with x | x
  ·exact t.ap k x hm
  ·have:=(t.a2.mine hm).2;omega⟩
theorem TwoR.second (t:TwoR w B p1 p2 s1 c1 s2 c2 l2 h1 h2) (a:RhAt w' B p2 s2' c2' l2' h2') (u:RTurn w w' p2 s2 c2 l2 s2' c2' l2'):TwoR w' B p1 p2 s1 c1 s2' c2' l2' h1 h2':=
 ⟨t.a1.same fun k hk=>u.block k (t.a1.mine hk).2 (fun hm=>t.ap k hk hm),a,fun k hk hm=>by
  rcases u.fresh k hm with x | x
  ·exact t.ap k hk x
  ·have:=(t.a1.mine hk).2;omega⟩
end
def BothI (w2:World) (p1 p2 k:Nat) (wr:World):Prop:=∃ st s1 c1 s2 c2 l2,TwoR wr w2.heap.size p1 p2 s1 c1 s2 c2 l2 st st∧HsOk st∧st.ls.length≤k∧Below w2.heap.size w2 wr
theorem BothI.below {w2 wr w':World} {p1 p2 k:Nat} (h:BothI w2 p1 p2 k wr) (hb:Below wr.heap.size wr w'):BothI w2 p1 p2 k w':=by
 obtain ⟨st,s1,c1,s2,c2,l2,t,a,b,c⟩:=h
 exact ⟨st,s1,c1,s2,c2,l2,t.below hb,a,b,c.trans (hb.mono c.size)⟩
theorem both_new (w:World):BothI w w.heap.size (w.heap.size + 1) 0 ((w.alloc (.cells #[.slice none 0 0,.int .i64 0,.int .i64 0,.slice none 0 0,.string ⟨#[]⟩,.int .i64 0] 31)).alloc (.cells #[.slice none 0 0,.int .i64 0,.int .i64 0,.slice none 0 0,.int .i64 0,.int .i64 0,.int .i64 0,.int .i64 0,.int .i64 0,.slice none 0 0] 42)):=by
 obtain ⟨w1,h1⟩:∃ W,W=w.alloc (.cells #[.slice none 0 0,.int .i64 0,.int .i64 0,.slice none 0 0,.string ⟨#[]⟩,.int .i64 0] 31):=⟨_,rfl⟩
 have a1:=house_new w w.heap.size (Nat.le_refl _)
 have b1:Below w.heap.size w w1:=by rw [h1];exact (Below.refl _ _).alloc (Nat.le_refl _) _
 have hz:w1.heap.size=w.heap.size + 1:=by rw [h1];simp
 rw [← h1] at a1 ⊢
 have a2:=rhouse_new w1 w1.heap.size (Nat.le_refl _)
 have b2:=(Below.refl _ w1).alloc (Nat.le_refl _) (.cells #[.slice none 0 0,.int .i64 0,.int .i64 0,.slice none 0 0,.int .i64 0,.int .i64 0,.int .i64 0,.int .i64 0,.int .i64 0,.slice none 0 0] 42)
 have t:TwoR _ w.heap.size _ _ _ _ _ _ _ _ _:=⟨a1.below b2,a2.mono b1.size,fun k hk hm=>by
   have x1:=(a1.mine hk).2
   have x2:=(a2.mine hm).1
   omega⟩
 rw [hz] at t
 exact ⟨hs0,_,_,_,_,_,t,ok_zero,by simp [hs0],b1.trans (b2.mono b1.size)⟩
theorem bare_any (c:Int) (w:World) (hg:ErrType w):Calls Tryz.prog 9 #[errV c,.int .i64 c] w fun e w'=>e = .returned (.bool true)∧Below w.heap.size w w':=by
 by_cases hc:c=0
 ·subst hc
  rw [show errV 0=Value.nilIface from rfl]
  exact bare_nil w
 ·rw [errV_ne hc]
  exact bare_errno c w hg
theorem now_any {B pb:Nat} {sv:Value} {b:Bk} {w:World} (h:BookAt w B pb sv b) (hi:Inv b) :
  Calls Tryz.prog 13 #[.pointer (some ⟨pb,0,none⟩),.int .i64 (-1)] w fun r w'=>∃ v,r = .returned v∧w'.ownsRow w.heap.size 78 7 v (srt (asOf b b.n)).length ((srt (asOf b b.n)).flatMap evC)∧Below w.heap.size w w':=
 as_any h (now_small hi).2 (-1)
end Go.Proofs.YtdkhohlhdiekmaaGreatDoor
namespace Go.Proofs.YtdkhohlhdiekmaaGreatDoor
open Go.RowKit
theorem rd_tot:∀ {n:Nat} {r:List UInt8} {ls:List (List UInt8)},Rd n r ls→totL ls≤r.length
 | _,_,_,.none _=>Nat.zero_le _
 | _,_,_,.some hh hr=>by
  have h1:=rd_tot hr
  have h2:=hh.len
  rw [List.length_drop] at h1
  rw [tot_cons]
  omega
theorem BothI.bel {w2 wr:World} {p1 p2 k:Nat} (h:BothI w2 p1 p2 k wr):Below w2.heap.size w2 wr:=by
 obtain ⟨_,_,_,_,_,_,_,_,_,c⟩:=h
 exact c
theorem glob_of {w:World} (h1:ErrType w) (h2:GlobH w):Glob w:=⟨h1,h2.ev.num.tab,h2.ev.num.syn,h2.ev.num.rng,h2.ev.num.ml⟩
set_option maxRecDepth 20000 in
set_option maxHeartbeats 8000000 in
theorem hdoes_walk (ao:Option Addr) (cap:Nat) (l:List (List UInt8)) (a1:ByteArray) (w:World) (hg:ErrType w∧GlobH w) (hev:∀ t ∈ l,t.length≤maxLen) (hat:StrsC w ao l) (_hcp:l.length≤cap) (_hmx:cap≤maxLen) (hs:a1.size≤maxLen) :
  Calls Tryz.prog 3 #[.slice ao l.length cap,.string a1] w fun e w'=>e = .returned (.bool true)∧Below w.heap.size w w':=by
 unfold maxLen at hs hev
 have HC:=hidE hat
 have HG:=hidE hg
 have HEV:=hidE hev
 clear hat hev hg
 go_enter Tryz.func3,Tryz.ntmps3
 by_cases h40:40 < l.length
 ·have hzz:(40:Int) < (l.length:Int):=by omega
  go_wp2
  go_ret
  exact ⟨rfl,Below.refl _ _⟩
 have hzz:¬ (40:Int) < (l.length:Int):=by omega
 by_cases h2k:2000 < a1.size
 ·have hyy:(2000:Int) < (a1.size:Int):=by omega
  go_wp2
  go_ret
  exact ⟨rfl,Below.refl _ _⟩
 have hyy:¬ (2000:Int) < (a1.size:Int):=by omega
 have HN:=hidE (both_new w)
 obtain ⟨W3,hW3⟩:∃ W,W=((w.alloc (.cells #[.slice none 0 0,.int .i64 0,.int .i64 0,.slice none 0 0,.string ⟨#[]⟩,.int .i64 0] 31)).alloc (.cells #[.slice none 0 0,.int .i64 0,.int .i64 0,.slice none 0 0,.int .i64 0,.int .i64 0,.int .i64 0,.int .i64 0,.int .i64 0,.slice none 0 0] 42)):=⟨_,rfl⟩
 rw [← hW3] at HN
 have HW3:Hid (W3=_):=hW3
 clear hW3
 go_wp2_with fail
 rw [← HW3.out]
 obtain ⟨p1,hp1⟩:∃ p,p=w.heap.size:=⟨_,rfl⟩
 obtain ⟨p2,hp2⟩:∃ p,p=w.heap.size + 1:=⟨_,rfl⟩
 rw [← hp2,← hp1]
 have HN2:Hid (BothI w p1 p2 0 W3):=by rw [hp1,hp2];exact HN.out
 clear hp1 hp2 HN HW3
 go_loopw [7] (fun i wr=>∃ k:Nat,k≤l.length∧i = .int .i64 k∧Hid (BothI w p1 p2 k wr)) (fun i _=>l.length - (intOf i).toNat)
 case atStart=>exact ⟨0,Nat.zero_le _,rfl,HN2⟩
 case round=>
  obtain ⟨k,hk,rfl,HS⟩:=hrel
  obtain ⟨st,s1,c1,s2,c2,l2,hTW,hok,hcnt,hbl⟩:=HS.out
  by_cases hlt:k < l.length
  ·obtain ⟨b,o,e1,lt1,c1'⟩:=HC.out (by omega)
   subst e1
   have HCL:Hid (∀ W,Below w.heap.size w W→W.cell? ⟨b,o + k,none⟩=some (encS l[k])):=fun W hb=>(hb.cell (p:=⟨b,o + k,none⟩) lt1).trans (c1' k hlt)
   have d1:=HCL.out wr hbl
   have hmm:=HEV.out _ (List.getElem_mem hlt)
   have hgl:Glob wr:=(glob_of HG.out.1 HG.out.2).below hbl
   have hgr:Ground w.heap.size wr:=⟨w,HG.out.2,Nat.le_refl _,hbl⟩
   have HDO:=hidE fun h3:l[k].length≤1000=>rdo_any hTW.a2 l[k] h3 hok (by omega) hgr hgl
   obtain ⟨t,ht⟩:∃ t,t=l[k]:=⟨_,rfl⟩
   rw [← ht] at d1 HCL hmm HDO
   unfold encS at d1 HCL
   have hts:(ba t).size=t.length:=ba_size t
   have HTW:=hidE hTW
   have HOK:=hidE hok
   have HBL:=hidE hbl
   clear c1' ht HS hTW hok hbl hgr hgl
   by_cases h300:300 < t.length
   ·have hq:(300:Int) < ((ba t).size:Int):=by omega
    go_wp2
    go_ret
    exact ⟨rfl,HBL.out⟩
   have hq:¬ (300:Int) < ((ba t).size:Int):=by omega
   have hdo:=HDO.out (by omega)
   have hcn:=do_cnt st t
   have HK2:Hid (HsOk (doH st t).h):=do_keeps t HOK.out (by omega)
   clear HDO
   go_wp2_with fail
   refine hdo.mono ?_
   rintro x w4 ⟨s2',c2',l2',rfl,hA4,hT4⟩
   have hB4:Below w.heap.size w w4:=hT4.below HTW.out.a2 HBL.out HBL.out.size
   have hT4':=HTW.out.second hA4 hT4
   have hdo2:=do_any hT4'.a1 HOK.out (by omega) ⟨w,HG.out.2,Nat.le_refl _,hB4⟩ t (by omega)
   have d2:=HCL.out w4 hB4
   have HK3:Hid (∀ w' s1' c1',HsAt w' w.heap.size p1 s1' c1' (doH st t).h→HTurn w4 w' p1 s1 c1 s1' c1'→BothI w p1 p2 (k + 1) w'∧Below w.heap.size w w'):=fun w' s1' c1' a' u'=>
    ⟨⟨_,_,_,_,_,_,hT4'.first a' u',HK2.out,by omega,u'.below hT4'.a1 hB4 hB4.size⟩,u'.below hT4'.a1 hB4 hB4.size⟩
   clear hdo hA4 hT4 HBL d1 hT4' hB4 HTW HOK HK2 HCL hcn hq
   go_wp2_with fail
   refine hdo2.mono ?_
   rintro x w7 ⟨s1',c1',rfl,hA7,hT7⟩
   obtain ⟨hS7,hB7⟩:=HK3.out w7 s1' c1' hA7 hT7
   have HS7:=hidE hS7
   have HB7:=hidE hB7
   clear hdo2 hA7 hT7 hS7 hB7 HK3 d2
   generalize (doH st t).c=cc at *
   generalize ba (doH st t).told=tt at *
   go_wp2_with fail
   refine (bare_any cc w7 (HG.out.1.below HB7.out)).mono ?_
   rintro x w8 ⟨rfl,hb8⟩
   have HS9:=hidE (HS7.out.below hb8)
   clear hb8 HS7 HB7
   go_wp2
   go_roundw
   case rel=>exact ⟨k + 1,by omega,by go_num,HS9⟩
   case measure=>simp [intOf];omega
  ·obtain rfl:k=l.length:=by omega
   have HTW:=hidE hTW
   have HOK:=hidE hok
   have HBL:=hidE hbl
   have HB:=hidE HS.out
   clear HS hTW hok hbl
   go_wp2_with fail
   have hU:=up_ne
   have hA:=anyW_ne
   refine wp_region_turn [(.pure,0),(.pure,2),(.make,1),(.make,3),(.pure,4),(.pure,5),(.pure,6),(.pure,7),(.pure,8),(.pure,10),(.pure,11),(.pure,12),(.make,9),(.make,13),(.make,14),(.pure,15),(.pure,16)] (by kernel_rfl) (by kernel_rfl) ?_
   obtain ⟨W0,hW0⟩:∃ W,W=wr.drew:=⟨_,rfl⟩
   rw [← hW0]
   have hb0:Below wr.heap.size wr W0:=by rw [hW0];exact below_drew _
   clear hW0
   have hT0:=HTW.out.below hb0
   have HB0:=hidE (HB.out.below hb0)
   have hj1:=hjour_any hT0.a1
   have hj2:=rjour_any hT0.a2 (by omega) HOK.out.ls
   have HT0:=hidE hT0
   clear hT0 hb0
   repeat (first | refine turn_p rfl ?_ | refine turn_q rfl ?_);go_big_quiet_step (fail);refine wpQuiet_nil ?_
   refine turn_n rfl ?_
   go_wp2_with fail
   refine hj1.mono ?_
   rintro e w1 ⟨rfl,hw1⟩
   subst w1
   clear hj1
   go_wp2_with fail
   refine ⟨rfl,Below.refl _ _,?_⟩
   refine turn_n rfl ?_
   go_wp2_with fail
   refine hj2.mono ?_
   rintro e w1 ⟨rfl,hb1⟩
   have HT1:=hidE (HT0.out.below hb1)
   have HB1:=hidE (HB0.out.below hb1)
   have HBL1:=hidE hb1
   clear hj2 hb1
   go_wp2_with fail
   refine ⟨rfl,HBL1.out,?_⟩
   have hn1:=now_any HT1.out.a1.bk HOK.out.inv
   repeat (first | refine turn_p rfl ?_ | refine turn_q rfl ?_);go_big_quiet_step (fail);refine wpQuiet_nil ?_
   refine turn_n rfl ?_
   go_wp2_with fail
   refine hn1.mono ?_
   rintro e w2 ⟨v1,rfl,hown1,hb2⟩
   have HT2:=hidE (HT1.out.below hb2)
   have HB2:=hidE (HB1.out.below hb2)
   have HBL2:=hidE hb2
   have HO1:=hidE hown1
   have hn2:=rnow_any HT2.out.a2.bk HOK.out.inv (-1) (Or.inr (by decide))
   clear hn1 hown1 hb2
   go_wp2_with fail
   refine ⟨rfl,HBL2.out,?_⟩
   refine turn_n rfl ?_
   go_wp2_with fail
   refine hn2.mono ?_
   rintro e w3 ⟨v2,rfl,hown2,hb3⟩
   have HB3:=hidE (HB2.out.below hb3)
   have HBL3:=hidE hb3
   have hsm:=same_any (row_same HO1.out fun k hk=>hb3.block k (HO1.out.lt k hk).2) hown2 (by have:=(now_small HOK.out.inv).1;omega)
   clear hn2 hown2 hb3
   go_wp2_with fail
   refine ⟨rfl,HBL3.out,?_⟩
   refine turn_n rfl ?_
   go_wp2_with fail
   refine hsm.mono ?_
   rintro e w4 ⟨rfl,hb4⟩
   have HB4:=hidE (HB3.out.below hb4)
   have HBL4:=hidE hb4
   clear hsm hb4
   go_wp2_with fail
   refine ⟨rfl,HBL4.out,?_⟩
   repeat (first | refine turn_p rfl ?_ | refine turn_q rfl ?_);go_big_quiet_step (fail);refine wpQuiet_nil ?_
   refine turn_nil ?_
   clear HB HTW HOK HBL HT0 HB0 HT1 HB1 HBL1 HT2 HB2 HBL2 HO1 HB3 HBL3 HBL4 hcnt
   go_wp2_with fail
   obtain ⟨wo,hwo⟩:∃ X,X=wr:=⟨_,rfl⟩
   clear hwo hzz hyy HN2
   go_loopw [1,12] (fun s i wr=>∃ (x:ByteArray) (j:Nat),j≤2∧i = .int .i64 j∧s = .string x∧x.size≤100000∧Hid (BothI w p1 p2 l.length wr)) (fun _ i _=>2 - (intOf i).toNat)
   case atStart=>exact ⟨_,0,by omega,rfl,rfl,by omega,HB4⟩
   case round=>
    obtain ⟨x,j,hj,rfl,rfl,hxs,HB⟩:=hrel
    by_cases hj2:j < 2
    rotate_left
    ·obtain rfl:j=2:=by omega
     have hfb:=HB.out.bel
     go_wp2
     go_ret
     exact ⟨rfl,hfb⟩
    have hj2':(j:Int) < 2:=by omega
    go_upto_region 18 with fail
    go_cut [92] (fun s wx=>s = .bool (decide (j=1))∧wx=wr)
    case first=>
     by_cases hj1:j=1
     ·subst hj1
      go_wp2
      go_meet
      case rel=>exact ⟨rfl,rfl⟩
     ·obtain rfl:j=0:=by omega
      go_wp2
      go_meet
      case rel=>exact ⟨rfl,rfl⟩
    case rest=>
    obtain ⟨rfl,rfl⟩:=hcut
    apply_assumption
    go_cut [1] (fun s wx=>∃ x:ByteArray,s = .string x∧x.size≤100000∧Hid (BothI w p1 p2 l.length wx))
    case first=>
     by_cases hj1:j=1
     ·subst hj1
      rw [show decide ((1:Nat)=1)=true from rfl]
      obtain ⟨st',t1,d1,t2,d2,m2,hTW,hok,hcnt,hbl⟩:=HB.out
      have hjo:=rjour_any hTW.a2 (by omega) hok.ls
      have HJ2:=fun (W:World) (hb:Below wc.heap.size wc W)=>hidE (rjour_any (hTW.a2.below hb) (by omega) hok.ls)
      have hfz:(ba (framesL 0 st'.ls)).size≤8640:=by
       rw [ba_size,frames_len]
       have:=frames_bdH st'.ls hok.ls
       omega
      generalize ba (framesL 0 st'.ls)=F at *
      clear hTW hok hbl
      go_wp2_with fail
      refine hjo.mono ?_
      rintro e w5 ⟨rfl,hb5⟩
      have hjo2:=(HJ2 w5 hb5).out
      clear hjo HJ2
      go_wp2_with fail
      refine hjo2.mono ?_
      rintro e w6 ⟨rfl,hb6⟩
      have HB6:=hidE ((HB.out.below hb5).below hb6)
      have hq1:Int.tdiv ((F.size:Int) * 2) 3=((F.size * 2 / 3:Nat):Int):=by
       rw [Int.tdiv_eq_ediv_of_nonneg (by omega)];omega
      have hq2:F.size * 2 / 3≤F.size:=by omega
      obtain ⟨q,hq⟩:∃ q,q=F.size * 2 / 3:=⟨_,rfl⟩
      rw [← hq] at hq1 hq2
      have hqz:(F.extract 0 q).size≤100000:=by rw [ByteArray.size_extract];omega
      clear hjo2 hb5 hb6 hq
      go_wp2
      go_meet
      case rel=>exact ⟨_,rfl,hqz,HB6⟩
     ·rw [decide_eq_false hj1]
      go_wp2
      go_meet
      case rel=>exact ⟨_,rfl,hxs,HB⟩
    case rest=>
     clear hxs HB
     obtain ⟨x,rfl,hxs,HB⟩:=hcut
     obtain ⟨ls,hrd⟩:=rd_ex _ 0 x.data.toList (Nat.le_refl _)
     have hlen:ls.length≤10000:=by
      have h1:=rd_tot hrd
      have h2:=tot_ge ls
      rw [size_data] at h1
      omega
     have hr1:=rrestore_any x ls _ (HG.out.2.below HB.out.bel) ((glob_of HG.out.1 HG.out.2).below HB.out.bel) hxs hrd
     have HR2:=fun (W:World) (hb:Below w.heap.size w W)=>hidE (restore_any x ls W (HG.out.2.below hb) hxs hrd)
     clear hrd
     go_upto_region 20 with fail
     go_wp2_with fail
     refine hr1.mono ?_
     rintro e w5 ⟨hres,hb5⟩
     have HB5:=hidE (HB.out.below hb5)
     have hr2:=(HR2 w5 HB5.out.bel).out
     clear hr1 HR2 HB
     rcases hres with ⟨hgd,px,sx,cx,lx,rfl,hAx⟩ | ⟨hng,rfl⟩
     ·have HAX:=hidE hAx
      have HGD:=hidE hgd
      clear hb5 hAx hgd
      go_wp2_with fail
      refine hr2.mono ?_
      rintro e w6 ⟨⟨_,py,sy,cy,rfl,hAy⟩ | ⟨hng,_⟩,hb6⟩
      rotate_left
      ·exact absurd HGD.out hng
      have HAX6:=hidE (HAX.out.below hb6)
      have HAY:=hidE hAy
      have HB6:=hidE (HB5.out.below hb6)
      clear hr2 hb6 hAy HAX HB5
      go_wp2_with fail
      refine (bare_nil w6).mono ?_
      rintro e w7 ⟨rfl,hb7⟩
      have HAX7:=hidE (HAX6.out.below hb7)
      have HAY7:=hidE (HAY.out.below hb7)
      have HB7:=hidE (HB6.out.below hb7)
      have HOK:Hid (HsOk (runH ls)):=ok_run _ ls rfl (by omega) HGD.out
      have HRL:Hid ((runH ls).ls=ls):=run_ls _ ls rfl HGD.out
      clear hb7 HAX6 HAY HB6 HGD
      go_upto_region 24 with fail
      refine wp_region_turn [(.pure,0),(.pure,1),(.pure,2),(.pure,3),(.pure,5),(.make,4),(.make,6),(.pure,7),(.pure,8),(.pure,9),(.pure,10),(.pure,11),(.pure,12),(.pure,14),(.pure,15),(.pure,16),(.make,13),(.make,17),(.make,18),(.pure,19),(.pure,20)] (by kernel_rfl) (by kernel_rfl) ?_
      obtain ⟨W8,hW8⟩:∃ W,W=w7.drew:=⟨_,rfl⟩
      rw [← hW8]
      have hb8:Below w7.heap.size w7 W8:=by rw [hW8];exact below_drew _
      clear hW8
      have HAX8:=hidE (HAX7.out.below hb8)
      have HAY8:=hidE (HAY7.out.below hb8)
      have HB8:=hidE (HB7.out.below hb8)
      have hj1:=hjour_any HAY8.out
      have hj2:=rjour_any HAX8.out (by rw [HRL.out];exact hlen) HOK.out.ls
      clear hb8 HAX7 HAY7 HB7
      repeat (first | refine turn_p rfl ?_ | refine turn_q rfl ?_);go_big_quiet_step (fail);refine wpQuiet_nil ?_
      refine turn_n rfl ?_
      go_wp2_with fail
      refine hj1.mono ?_
      rintro e w1 ⟨rfl,hw1⟩
      subst w1
      clear hj1
      go_wp2_with fail
      refine ⟨rfl,Below.refl _ _,?_⟩
      refine turn_n rfl ?_
      go_wp2_with fail
      refine hj2.mono ?_
      rintro e w9 ⟨rfl,hb9⟩
      have HAX9:=hidE (HAX8.out.below hb9)
      have HAY9:=hidE (HAY8.out.below hb9)
      have HB9:=hidE (HB8.out.below hb9)
      have HBL9:=hidE hb9
      have hn1:=now_any HAY9.out.bk HOK.out.inv
      clear hj2 hb9 HAX8 HAY8 HB8
      go_wp2_with fail
      refine ⟨rfl,HBL9.out,?_⟩
      repeat (first | refine turn_p rfl ?_ | refine turn_q rfl ?_);go_big_quiet_step (fail);refine wpQuiet_nil ?_
      refine turn_n rfl ?_
      go_wp2_with fail
      refine hn1.mono ?_
      rintro e w10 ⟨v1,rfl,hown1,hb10⟩
      have HB10:=hidE (HB9.out.below hb10)
      have HBL10:=hidE hb10
      have HO1:=hidE hown1
      have hn2:=rnow_any (HAX9.out.below hb10).bk HOK.out.inv (-1) (Or.inr (by decide))
      clear hn1 hown1 hb10 HAX9 HAY9 HB9 HBL9
      go_wp2_with fail
      refine ⟨rfl,HBL10.out,?_⟩
      refine turn_n rfl ?_
      go_wp2_with fail
      refine hn2.mono ?_
      rintro e w11 ⟨v2,rfl,hown2,hb11⟩
      have HB11:=hidE (HB10.out.below hb11)
      have HBL11:=hidE hb11
      have hsm:=same_any (row_same HO1.out fun k hk=>hb11.block k (HO1.out.lt k hk).2) hown2 (by have:=(now_small HOK.out.inv).1;omega)
      clear hn2 hown2 hb11 HO1 HB10 HBL10
      go_wp2_with fail
      refine ⟨rfl,HBL11.out,?_⟩
      refine turn_n rfl ?_
      go_wp2_with fail
      refine hsm.mono ?_
      rintro e w12 ⟨rfl,hb12⟩
      have HB12:=hidE (HB11.out.below hb12)
      have HBL12:=hidE hb12
      clear hsm hb12 HB11 HBL11
      go_wp2_with fail
      refine ⟨rfl,HBL12.out,?_⟩
      repeat (first | refine turn_p rfl ?_ | refine turn_q rfl ?_);go_big_quiet_step (fail);refine wpQuiet_nil ?_
      refine turn_nil ?_
      clear HOK HRL HBL12
      go_wp2
      go_roundw
      case rel=>exact ⟨x,j + 1,by omega,by go_num,rfl,hxs,HB12⟩
      case measure=>simp [intOf];omega
     ·clear hb5
      go_wp2_with fail
      refine hr2.mono ?_
      rintro e w6 ⟨⟨hgd,_⟩ | ⟨_,rfl⟩,hb6⟩
      ·exact absurd hgd hng
      have HB6:=hidE (HB5.out.below hb6)
      rw [show errV 3=Value.iface 43 (.int .i64 3) from rfl]
      clear hr2 hb6 HB5 hng
      go_wp2_with fail
      refine (bare_errno 3 w6 (HG.out.1.below HB6.out.bel)).mono ?_
      rintro e w7 ⟨rfl,hb7⟩
      have HB7:=hidE (HB6.out.below hb7)
      clear hb7 HB6
      go_wp2_with fail
      refine (bare_errno 3 w7 (HG.out.1.below HB7.out.bel)).mono ?_
      rintro e w8 ⟨rfl,hb8⟩
      have hfb:=(HB7.out.below hb8).bel
      clear hb8 HB7
      go_wp2
      go_ret
      exact ⟨rfl,hfb⟩
end Go.Proofs.YtdkhohlhdiekmaaGreatDoor
