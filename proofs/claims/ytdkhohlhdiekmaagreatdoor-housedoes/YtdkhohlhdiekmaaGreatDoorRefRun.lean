/-  -/
import Derived.Test.YtdkhohlhdiekmaaGreatDoorBnRp
import Derived.Test.YtdkhohlhdiekmaaGreatDoorBnRo
import Derived.Test.YtdkhohlhdiekmaaGreatDoorBnM
import Derived.Test.YtdkhohlhdiekmaaGreatDoorCoRun
import Derived.Deep.DeepCutAuto
import Derived.Deep.CutBlock
namespace Go.Proofs.YtdkhohlhdiekmaaGreatDoor
open Go.RowKit Go.Maps
set_option maxRecDepth 20000 in
set_option maxHeartbeats 8000000 in
theorem refRun_any (l:List Ev) (ao:Option Addr) (cap:Nat) (w:World) (h:EvsC w ao l) (hw:∀ e ∈ l,EvW e) (hl:l.length≤200) (hgl:TabG w) :
  Calls Tryz.prog 188 #[.slice ao l.length cap] w fun r w'=>∃ rv,r = .returned rv∧ResAt w.heap.size w' rv (goS stk00 (ordd l)) (goL stk00 (ordd l))∧Below w.heap.size w w':=by
 obtain ⟨i0,hi,hz0,hz1,hz2⟩:=info_parts Tryz.infoLin
 have hmm:=@run_makeMap Tryz.prog
 obtain ⟨wa,hwa⟩:∃ W,W=w.alloc (.cells #[.slice none 0 0,.map none] 264):=⟨_,rfl⟩
 obtain ⟨wb,hwb⟩:∃ W,W=wa.alloc (.map #[] 0):=⟨_,rfl⟩
 obtain ⟨wc,hwc⟩:∃ W,W=wb.alloc (.cells #[.slice none 0 0,.map (some (w.heap.size + 1))] 264):=⟨_,rfl⟩
 obtain ⟨wm,hwm⟩:∃ W,W=wc.alloc (.map #[] 0):=⟨_,rfl⟩
 have sa:wa.heap.size=w.heap.size + 1:=by rw [hwa];simp
 have sb:wb.heap.size=w.heap.size + 2:=by rw [hwb];simp [sa]
 have sc:wc.heap.size=w.heap.size + 3:=by rw [hwc];simp [sb]
 have hsm:wm.heap.size=w.heap.size + 4:=by rw [hwm];simp [sc]
 have ba:Below w.heap.size w wa:=by rw [hwa];exact (Below.refl _ _).alloc (Nat.le_refl _) _
 have bb:Below wa.heap.size wa wb:=by rw [hwb];exact (Below.refl _ _).alloc (Nat.le_refl _) _
 have bc:Below wb.heap.size wb wc:=by rw [hwc];exact (Below.refl _ _).alloc (Nat.le_refl _) _
 have bm:Below wc.heap.size wc wm:=by rw [hwm];exact (Below.refl _ _).alloc (Nat.le_refl _) _
 have hBm:Below w.heap.size w wm:=((ba.trans (bb.mono (by omega))).trans (bc.mono (by omega))).trans (bm.mono (by omega))
 have hmap1:wm.ownsMap Tryz.prog 9 heldE (w.heap.size + 1) 0 (.map []):=by
  have h1:wb.ownsMap Tryz.prog 9 heldE (w.heap.size + 1) 0 (.map []):=by
   rw [hwb,← sa]
   exact World.ownsMap_made wa Tryz.prog 9 heldE
  exact map_same h1 ((bm.block _ (by omega)).trans (bc.block _ (by omega)))
 have hmap2:wm.ownsMap Tryz.prog 9 heldE (w.heap.size + 3) 0 (.map []):=by
  rw [hwm,← sc]
  exact World.ownsMap_made wc Tryz.prog 9 heldE
 have hrb0:wm.cell? ⟨w.heap.size + 2,0,none⟩=some (.slice none 0 0)∧wm.cell? ⟨w.heap.size + 2,1,none⟩=some (.map (some (w.heap.size + 1)))∧wm.frozen? ⟨w.heap.size + 2,0,none⟩=false:=by
  rw [bm.cell (p:=⟨w.heap.size + 2,0,none⟩) (by show w.heap.size + 2 < _;omega),bm.cell (p:=⟨w.heap.size + 2,1,none⟩) (by show w.heap.size + 2 < _;omega),bm.frozen (p:=⟨w.heap.size + 2,0,none⟩) (by show w.heap.size + 2 < _;omega),hwc,← sb]
  simp
 have hio:=ordered_evs l ao cap wm (h.below hBm) (by omega)
 have HWM:Hid (wm=(((w.alloc (.cells #[.slice none 0 0,.map none] 264)).alloc (.map #[] 0)).alloc (.cells #[.slice none 0 0,.map (some (w.heap.size + 1))] 264)).alloc (.map #[] 0)):=by show wm=_;rw [hwm,hwc,hwb,hwa]
 have HGL:Hid (TabG wa):=hgl.below ba
 have HBA:Hid (Below wa.heap.size wa wm):=(bb.trans (bc.mono (by omega))).trans (bm.mono (by omega))
 have HRV:Hid (wa.cell? ⟨w.heap.size,0,none⟩=some (.slice none 0 0)∧wa.cell? ⟨w.heap.size,1,none⟩=some (.map none)∧(∀ j,wa.frozen? ⟨w.heap.size,j,none⟩=false)∧Below w.heap.size w wa):=by
  refine ⟨?_,?_,fun j=>?_,ba⟩ <;> (rw [hwa];simp)
 have hsa:wa.heap.size=w.heap.size + 1:=sa
 have HBM:Hid (Below w.heap.size w wm):=hBm
 have HEW:Hid (∀ e ∈ stl l,EvW e):=fun e he=>hw e ((stl_perm l).mem_iff.1 he)
 have HM:Hid (wm.ownsMap Tryz.prog 9 heldE (w.heap.size + 1) 0 (.map [])∧wm.ownsMap Tryz.prog 9 heldE (w.heap.size + 3) 0 (.map [])∧wm.cell? ⟨w.heap.size + 2,0,none⟩=some (.slice none 0 0)∧wm.cell? ⟨w.heap.size + 2,1,none⟩=some (.map (some (w.heap.size + 1)))∧wm.frozen? ⟨w.heap.size + 2,0,none⟩=false):=⟨hmap1,hmap2,hrb0⟩
 clear hwm hwa hwb hwc sa sb sc ba bb bc bm hmap1 hmap2 hrb0 hgl hw hBm
 go_enter Tryz.func188,Tryz.ntmps188
 go_wp2_with fail
 rw [← HWM.out]
 refine hio.mono ?_
 rintro r w1 ⟨ev,rfl,hown1,hb1⟩
 have hsz1:wm.heap.size≤w1.heap.size:=hb1.size
 have HB1:Hid (Below wm.heap.size wm w1):=hb1
 obtain ⟨fs,hfs⟩:∃ fs,fs=stl l:=⟨_,rfl⟩
 rw [← hfs] at hown1 HEW
 have hfl:fs.length≤200:=by rw [hfs,stl_len];exact hl
 have HFS:Hid (fs=stl l):=hfs
 have HE1:Hid (EvsAt w1 ev fs):=EvsAt.of_own hown1
 have hevb:∀ k,ev.ownBlock=some k→wm.heap.size≤k:=fun k hk=>(hown1.lt k hk).1
 have HST:Hid (RunR wm.heap.size w1 (w.heap.size + 2) (w.heap.size + 1) (w.heap.size + 3) 0 0 (.map []) (.map []) (fun _=>.slice none 0 0) stk00 (.slice none 0 0) [] ev fs):=by
  obtain ⟨m1,m2,r0,r1,r2⟩:=HM.out
  refine ⟨(hb1.cell (p:=⟨w.heap.size + 2,0,none⟩) (by show w.heap.size + 2 < _;omega)).trans r0,(hb1.frozen (p:=⟨w.heap.size + 2,0,none⟩) (by show w.heap.size + 2 < _;omega)).trans r2,(hb1.cell (p:=⟨w.heap.size + 2,1,none⟩) (by show w.heap.size + 2 < _;omega)).trans r1,
   ⟨map_same m1 (hb1.block _ (by omega)),fun x=>rfl,fun x=>LayAt.nil _,fun x k hk=>(by cases hk),fun x y _ k hk=>(by cases hk)⟩,map_same m2 (hb1.block _ (by omega)),fun x=>rfl,World.ownsRow_nil _ _ _ _,EvsAt.of_own hown1,by omega,by omega,by omega,
   by simp [Value.ownBlock],by simp [Value.ownBlock],by simp [Value.ownBlock],fun x=>by simp [Value.ownBlock],fun x=>by simp [Value.ownBlock],fun x k hk=>(by cases hk),fun e=>(by have:=hevb _ e;omega),fun e=>(by have:=hevb _ e;omega),fun e=>(by have:=hevb _ e;omega),fun x k hk=>(by cases hk),fun k hk=>(by cases hk)⟩
 obtain ⟨ad,nn,cp,hev⟩:∃ ad n cap,ev = .slice ad n cap∧n=fs.length:=by
  rcases HE1.out with ⟨e,e2⟩ | ⟨g,o,c,e,_⟩
  ·exact ⟨none,0,0,e,by rw [e2];rfl⟩
  ·exact ⟨_,_,_,e,rfl⟩
 obtain ⟨rfl,hnn⟩:=hev
 subst hnn
 clear hio hb1 hown1 hfs h hsz1 hevb
 generalize hlb:w.heap.size + 1 + 1 + 1=lb
 generalize hrb:w.heap.size + 1 + 1=rb
 generalize hmb:w.heap.size + 1=mb
 have HRB:Hid (mb=w.heap.size + 1∧rb=w.heap.size + 2∧lb=w.heap.size + 3):=⟨hmb.symm,hrb.symm,hlb.symm⟩
 have e1:=HRB.out.1
 have e2:=HRB.out.2.1
 have e3:=HRB.out.2.2
 rw [← e1,← e2,← e3] at HST
 clear hlb hrb hmb e1 e2 e3
 go_wp2
 go_loopw [20] (fun i wr=>∃ (k n n2:Nat) (D D2:DataW Value) (V:ByteArray→Value) (u:Value),k≤fs.length∧i = .int .i64 k∧n≤k∧n2≤k∧Hid (RunR wm.heap.size wr rb mb lb n n2 D D2 V (goS stk00 ((fs.take k).filter rtB)) u (goL stk00 ((fs.take k).filter rtB)) (.slice ad fs.length cp) fs)∧Hid (Below wa.heap.size wa wr)) (fun i _=>fs.length - (intOf i).toNat)
 case atStart=>exact ⟨0,0,0,_,_,_,_,Nat.zero_le _,rfl,Nat.le_refl _,Nat.le_refl _,HST,HBA.out.trans (HB1.out.mono (by omega))⟩
 case round=>
  obtain ⟨k,n,n2,D,D2,V,u,hk,rfl,hnk,hnk2,HS,HB⟩:=hrel
  by_cases hlt:k < fs.length
  ·rcases HS.out.evs with ⟨e1,e2⟩ | ⟨g,o,cp,e1,hg,hc⟩
   ·rw [e2] at hlt;exact absurd hlt (Nat.not_lt_zero _)
   ·simp only [Value.slice.injEq] at e1
    obtain ⟨rfl,_,rfl⟩:=e1
    obtain ⟨x,hx⟩:∃ x,x=fs[k]:=⟨_,rfl⟩
    have hcw:∀ j,j < 7→wr.cell? ⟨g,o + k * 7 + j,none⟩=(evC x)[j]?:=fun j hj=>by rw [hc k j hlt hj,hx]
    have hxw:EvW x:=by rw [hx];exact HEW.out _ (List.getElem_mem hlt)
    have q0:=hcw 0 (by omega)
    have q1:=hcw 1 (by omega)
    have q2:=hcw 2 (by omega)
    have q3:=hcw 3 (by omega)
    have q4:=hcw 4 (by omega)
    have q5:=hcw 5 (by omega)
    have q6:=hcw 6 (by omega)
    clear hcw hc
    obtain ⟨W1,hW1⟩:∃ W,W=wr.alloc (.cells (evC x).toArray 78):=⟨_,rfl⟩
    have hb1:Below wr.heap.size wr W1:=by rw [hW1];exact (Below.refl _ _).alloc (Nat.le_refl _) _
    have hE1:EvAt W1 wr.heap.size x:=by rw [hW1];constructor <;> simp [evC]
    have hsW1:W1.heap.size=wr.heap.size + 1:=by rw [hW1];simp
    have hrt:=rright_any x W1 hxw
    have HX:Hid (x=fs[k]):=hx
    have HW1:Hid (W1=wr.alloc (.cells (evC x).toArray 78)):=hW1
    have HE2:Hid (EvAt W1 wr.heap.size x):=hE1
    have HBW:Hid (Below wr.heap.size wr W1):=hb1
    clear hx hW1 hE1 hb1 hxw
    obtain ⟨id,item,kind,qty,price,ofI,day⟩:=x
    simp only [evC,evV,List.getElem?_cons_zero,List.getElem?_cons_succ,Nat.add_zero] at q0 q1 q2 q3 q4 q5 q6 hrt HW1
    go_wp2_with fail
    rw [← HW1.out]
    refine hrt.mono ?_
    rintro r W2 ⟨ht,hb2⟩
    have hb12:Below wr.heap.size wr W2:=HBW.out.trans (hb2.mono (by omega))
    have hE2:=HE2.out.below hb2
    have HS2:Hid (RunR wm.heap.size W2 rb mb lb n n2 D D2 V (goS stk00 ((fs.take k).filter rtB)) u (goL stk00 ((fs.take k).filter rtB)) _ fs):=HS.out.below hb12
    have hs2:=hb2.size
    have HBW2:Hid (Below wa.heap.size wa W2):=HB.out.trans (hb12.mono HB.out.size)
    have hlb:lb < wr.heap.size:=HS.out.last.lt
    have HAE:Hid (∀ x,(V x).ownBlock ≠ some wr.heap.size):=(HS.out.apart (Nat.le_refl _)).v
    clear hrt hb2 q0 q1 q2 q3 q4 q5 q6 hb12 HE2 HBW HW1 HS HB
    obtain ⟨b,rfl,hr⟩:=ht
    cases b
    rotate_left
    ·have hrt:Rt ⟨id,item,kind,qty,price,ofI,day⟩:=hr.1 rfl
     clear hr
     have z0:=hE2.c0
     have z1:=hE2.c1
     have z2:=hE2.c2
     have z3:=hE2.c3
     have z4:=hE2.c4
     have z5:=hE2.c5
     simp only at z0 z1 z2 z3 z4 z5
     obtain ⟨adu,nu,cu,hu⟩:=own_len' HS2.out.own
     subst hu
     have r0:=HS2.out.c0
     have r1:=HS2.out.c1
     have hn1:rb < W2.heap.size:=HS2.out.rlt
     have hn2:wr.heap.size < W2.heap.size:=by omega
     obtain ⟨W3,hW3⟩:∃ W,W=W2.alloc (.cells #[.int .i64 id,.int .i64 0,.int .i64 0,.int .i64 0,.bool false] 267):=⟨_,rfl⟩
     have hb3:Below W2.heap.size W2 W3:=by rw [hW3];exact (Below.refl _ _).alloc (Nat.le_refl _) _
     have hsW3:W3.heap.size=W2.heap.size + 1:=by rw [hW3];simp
     have hxs:item.size≤maxLen:=by have:=rt_size hrt;unfold maxLen;simp only at this;omega
     obtain ⟨M,hM⟩:∃ M,M=goS stk00 ((fs.take k).filter rtB):=⟨_,rfl⟩
     obtain ⟨ls,hls⟩:∃ ls,ls=goL stk00 ((fs.take k).filter rtB):=⟨_,rfl⟩
     have hok:StkOK k (M item):=by rw [hM];exact filt_ok fs k item
     have hll:ls.length≤k:=by rw [hls,goL_len];exact filt_le fs k
     have HSN:Hid (goS stk00 ((fs.take (k + 1)).filter rtB)=upd M item (doE (M item) ⟨id,item,kind,qty,price,ofI,day⟩).1∧goL stk00 ((fs.take (k + 1)).filter rtB)=ls ++ [(doE (M item) ⟨id,item,kind,qty,price,ofI,day⟩).2]):=by
      have hy:=filt_yes hlt (by rw [← HX.out];exact (rtB_iff _).2 hrt)
      rw [← HX.out] at hy
      rw [hy,goS_append,goL_append,← hM,← hls]
      exact ⟨rfl,rfl⟩
     rw [← hM,← hls] at HS2
     clear hM hls
     have hS3:=HS2.out.below hb3
     have hsu:=refSum_any hS3.lay (.slice adu nu cu) item hxs hok.ok (by have:=hok.q;omega) (by have:=hok.v;omega) (by have:=hok.len;omega) ⟨_,_,_,rfl⟩
     have HW3:Hid (W3=W2.alloc (.cells #[.int .i64 id,.int .i64 0,.int .i64 0,.int .i64 0,.bool false] 267)):=hW3
     have HE3:Hid (EvAt W3 wr.heap.size ⟨id,item,kind,qty,price,ofI,day⟩):=hE2.below hb3
     have HS3:Hid (RunR wm.heap.size W3 rb mb lb n n2 D D2 V M (.slice adu nu cu) ls _ fs):=hS3
     have HX3:Hid (XAt W3 W2.heap.size id 0 0 0 false):=by show XAt _ _ _ _ _ _ _;rw [hW3];constructor <;> simp
     have HB3:Hid (Below wa.heap.size wa W3):=HBW2.out.trans (hb3.mono HBW2.out.size)
     have HOK:Hid (StkOK k (M item)):=hok
     have HRT:Hid (Rt ⟨id,item,kind,qty,price,ofI,day⟩):=hrt
     have HAP:Hid (Apart W2.heap.size rb mb lb V (.slice adu nu cu) (.slice (some ⟨g,o,none⟩) fs.length cp)):=HS2.out.apart (Nat.le_refl _)
     have hwx:wa.heap.size≤W2.heap.size:=HBW2.out.size
     clear hW3 hb3 hS3 hok hrt HX hE2 HS2 HBW2
     go_wp2_with fail
     rw [← HW3.out]
     refine hsu.mono ?_
     rintro r W4 ⟨rfl,hb4⟩
     have HS4:Hid (RunR wm.heap.size W4 rb mb lb n n2 D D2 V M (.slice adu nu cu) ls _ fs):=HS3.out.below hb4
     have HE4:Hid (EvAt W4 wr.heap.size ⟨id,item,kind,qty,price,ofI,day⟩):=HE3.out.below hb4
     have HX4:Hid (XAt W4 W2.heap.size id 0 0 0 false):=HX3.out.below hb4
     have HB4:Hid (Below wa.heap.size wa W4):=HB3.out.trans (hb4.mono HB3.out.size)
     have hsW4:=hb4.size
     obtain ⟨th,hth⟩:∃ t,t=sumQ (M item).ys:=⟨_,rfl⟩
     rw [← hth]
     obtain ⟨sv,hsv⟩:∃ t,t=sumV (M item).ys:=⟨_,rfl⟩
     rw [← hsv]
     clear hsu hb4 HS3 HE3 HX3 HB3 HW3 r0 r1 z0 z1 z2 z3 z4 z5 hsv
     have HTH:Hid (th=sumQ (M item).ys):=hth
     clear hth
     obtain ⟨xb,hxb⟩:∃ b,b=W2.heap.size:=⟨_,rfl⟩
     obtain ⟨eb,heb⟩:∃ b,b=wr.heap.size:=⟨_,rfl⟩
     rw [← hxb] at HX4 hsW3 hn2 HAP hwx
     rw [← heb] at HE4 hn2 hlb HAE
     rw [← hxb,← heb]
     clear hxb
     have HEB:Hid (eb=wr.heap.size):=heb
     clear heb
     have z2:=HE4.out.c2
     simp only at z2
     go_upto_block 2 with fail
     go_cut [] (fun wx=>StepP wm.heap.size wa wx rb mb lb k M (.slice adu nu cu) ls (.slice (some ⟨g,o,none⟩) fs.length cp) fs ⟨id,item,kind,qty,price,ofI,day⟩ xb)
     case first=>
      have hxe:xb ≠ eb:=by omega
      have hbw4:wm.heap.size≤W4.heap.size:=by have:=HRB.out.2.2;have:=HS4.out.last.lt;omega
      have hwm:wa.heap.size≤mb:=by have:=HRB.out.1;omega
      have hnm:n < 1000000:=by omega
      by_cases k1:kind=1
      ·subst k1
       have hmu:=rt_mul HRT.out rfl
       simp only at hmu
       have hwr:IntKind.i64.wrap (qty * price)=qty * price:=IntWalk.i64_in _ ⟨by omega,by omega⟩
       go_wp2_with fail
       refine wp_region_preG (SameAt eb) [(false,0),(false,1),(true,2),(false,3),(true,4),(false,5),(true,6),(false,7),(false,8),(true,9),(false,10)] [] 2 (sameAt_refl eb) (sameAt_trans eb) (by kernel_rfl) (by kernel_rfl) ?_
       obtain ⟨W5,hW5⟩:∃ W,W=W4.drew:=⟨_,rfl⟩
       rw [← hW5]
       have hb5:Below W4.heap.size W4 W5:=by rw [hW5];exact below_drew _
       clear hW5
       have hE5:=HE4.out.below hb5
       have g1:=fun m:UpK (SameAt eb) W5=>m.cell hE5.c1
       have g3:=fun m:UpK (SameAt eb) W5=>m.cell hE5.c3
       have g4:=fun m:UpK (SameAt eb) W5=>m.cell hE5.c4
       simp only at g1 g3 g4
       have hU:=upK_ne eb
       have hA:=anyW_ne
       have X5:=HX4.out.below hb5
       have HT5:Hid (RunR wm.heap.size (W5.setCell ⟨xb,1,none⟩ (.int .i64 (qty * price))) rb mb lb n n2 D D2 V M (.slice adu nu cu) ls _ fs∧XAt (W5.setCell ⟨xb,1,none⟩ (.int .i64 (qty * price))) xb id (qty * price) 0 0 false∧EvAt (W5.setCell ⟨xb,1,none⟩ (.int .i64 (qty * price))) eb ⟨id,item,1,qty,price,ofI,day⟩∧Below wa.heap.size wa (W5.setCell ⟨xb,1,none⟩ (.int .i64 (qty * price)))):=wrote (HS4.out.below hb5) (X5.s1 _) hE5 HAP.out hxe (HB4.out.trans (hb5.mono HB4.out.size)) hwx
       have x1:=X5.c1
       have f1:=X5.f0 1
       clear hE5 X5
       have hs5:=hb5.size
       repeat (first | refine preG_p rfl ?_ | refine preG_q rfl ?_);go_big_quiet_step (fail);refine wpQuiet_nil ?_
       refine preG_nil ?_
       clear g1 g3 g4
       refine anyG_all [11] (by kernel_rfl) ?_
       intro i hi11
       obtain rfl:i=11:=by simpa using hi11
       clear hi11
       refine eOpG_keep rfl ?_
       go_wp2_with fail
       refine ⟨rfl,Below.heap_setCell _ _ _ _ (by show eb ≠ xb;exact hxe.symm),?_⟩
       refine anyG_all [12] (by kernel_rfl) ?_
       intro i hi12
       obtain rfl:i=12:=by simpa using hi12
       clear hi12
       refine eOpG_keep rfl ?_
       obtain ⟨W6,hW6⟩:∃ W,W=W5.setCell ⟨xb,1,none⟩ (.int .i64 (qty * price)):=⟨_,rfl⟩
       rw [← hW6] at HT5
       rw [← hW6]
       have hs6:W6.heap.size=W5.heap.size:=by rw [hW6];simp
       clear hW6 x1 f1
       have hnm2:n2 < maxLen:=by unfold maxLen;omega
       refine wpList_mapUpdate_own _ rfl _ _ _ 295 rfl 9 3 law_strT Tryz.underlying295 heldE lb n2 D2 rfl HT5.out.1.last hnm2 _ _ (keyB item) rfl rfl (key_str item hxs) (.held (.int .i64 price)) [] rfl ?_
       intro w9 m9 g9
       have HT9:=hidE (priced HT5.out HAP.out hlb (by have:=HRB.out.2.2;omega) g9 m9)
       have hge:SameAt eb W6 w9:=g9.block eb (World.block_lt_of_cell? _ _ HT5.out.2.2.1.c0) (fun c=>by injection c;omega)
       have hs9:=g9.size
       clear m9 g9
       go_wp2_with fail
       refine ⟨rfl,hge,?_⟩
       refine anyG_nil (by kernel_rfl) ?_
       have z3:=HT9.out.2.2.1.c3
       have x1:=HT9.out.2.1.c1
       simp only at z3
       have hc:=refPut_any HT9.out.1.lay HT9.out.1.c1 (by omega) ⟨id,item,1,qty,price,ofI,day⟩ HT9.out.2.2.1 hxs qty (qty * price) (by have:=HOK.out.len;simp only [upd_same];omega) hnm
       simp only [upd_same] at hc
       clear hge
       go_wp2_with fail
       refine hc.mono ?_
       rintro r WA ⟨rfl,nv,hlA,hfA,hgA⟩
       have TA:=took HT9.out.1 HT9.out.2.1 HAP.out HT9.out.2.2.2 hwm hlA hfA hgA
       simp only [upd_same] at TA
       have HP:=hidE (step1 (ofI:=ofI) (day:=day) (Nat.succ_le_succ hnk) (Nat.succ_le_succ hnk2) TA)
       clear hc hlA hfA hgA TA z3 x1
       go_wp2
       go_meet
       case rel=>exact HP
      ·by_cases k2:kind=2
       ·subst k2
        have z1:=HE4.out.c1
        have z4:=HE4.out.c4
        have x3:=HX4.out.c3
        have f3:=HX4.out.f0 3
        simp only at z1 z4
        have hpp:1≤price:=by have:=HRT.out.2.2;unfold rtK at this;simp only at this;omega
        have hLP:=wrote HS4.out (HX4.out.s3 price) HE4.out HAP.out hxe HB4.out hwx
        obtain ⟨W5,hW5⟩:∃ W,W=W4.setCell ⟨xb,3,none⟩ (.int .i64 price):=⟨_,rfl⟩
        rw [← hW5] at hLP
        have hlen:=HOK.out.len
        obtain ⟨ys,hys⟩:∃ t,t=(M item).ys:=⟨_,rfl⟩
        have HYS:Hid (ys=(M item).ys):=hys
        rw [← hys] at hlen
        obtain ⟨ad2,n3,cp2,hv2⟩:=(hLP.1.lay.lay item).slice
        have hn3:n3=ys.length:=by have:=hLP.1.lay.lay item;rw [hv2] at this;rw [this.nilOf,hys]
        subst hn3
        have hlk:=hLP.1.lay.look item hxs
        have r1:=hLP.1.c1
        have w1:=hLP.2.2.1.c1
        simp only at w1
        rw [hv2] at hlk
        have HV:Hid (V item = .slice ad2 ys.length cp2):=hv2
        have HLP:Hid (LateP wm.heap.size wa W5 rb mb lb n n2 D D2 V M (.slice adu nu cu) ls (.slice (some ⟨g,o,none⟩) fs.length cp) fs ⟨id,item,2,qty,price,ofI,day⟩ xb eb 0):=⟨hLP.2.2.1,hLP.2.2.2,Or.inl ⟨fun j y hj=>absurd hj (Nat.not_lt_zero _),hLP.1,hLP.2.1⟩⟩
        have hneb:eb ≠ xb:=hxe.symm
        clear hys hv2 hLP
        rw [hW5] at r1 w1 hlk
        have HW5:Hid (W5=W4.setCell ⟨xb,3,none⟩ (.int .i64 price)):=hW5
        clear hW5
        obtain ⟨wo,hwo⟩:∃ X,X=wr:=⟨_,rfl⟩
        rw [← hwo] at HEB
        have hlen2:ys.length≤1000:=by omega
        clear hwo hs2 hsW1 HX4 HE4 HS4 HB4 hsW4
        go_wp2
        rw [← HW5.out]
        clear hlk r1 w1 z1 z4 x3 f3
        go_loopw [83] (fun i wx=>∃ j:Nat,j≤ys.length∧i = .int .i64 j∧Hid (LateP wm.heap.size wa wx rb mb lb n n2 D D2 V M (.slice adu nu cu) ls (.slice (some ⟨g,o,none⟩) fs.length cp) fs ⟨id,item,2,qty,price,ofI,day⟩ xb eb j)) (fun i _=>ys.length - (intOf i).toNat)
        case atStart=>exact ⟨0,Nat.zero_le _,rfl,HLP⟩
        case round=>
         obtain ⟨j,hj,rfl,HJ⟩:=hrel
         by_cases hjl:j < ys.length
         ·obtain ⟨hE,hB,hAB⟩:=HJ.out
          have e1:=hE.c1
          have e4:=hE.c4
          have e5:=hE.c5
          simp only at e1 e4 e5
          have HE:=hidE hE
          have HB:=hidE hB
          clear hE hB HJ HLP HW5
          have hyl:j < (M item).ys.length:=by rw [← HYS.out];exact hjl
          rcases hAB with ⟨hno,hS,hX⟩ | ⟨hyes,hS,hX⟩
          ·have hla:=hS.lay.lay item
           have hlk:∀ m,(Instr.lookup 262 (.map (some mb)) (.string item) false).run Tryz.prog (wr.drewN m) = .ok (.slice ad2 ys.length cp2) (wr.drewN m):=fun m=>by rw [← HV.out];exact (hS.lay.below (below_drewN (Below.refl _ _) m)).look item hxs
           rw [HV.out] at hla
           rcases hla.form with ⟨_,e2⟩ | ⟨g2,o2,cap2,e2,hg2,hc2,hc3⟩
           ·rw [e2] at hyl;exact absurd hyl (Nat.not_lt_zero _)
           ·simp only [Value.slice.injEq] at e2
            obtain ⟨rfl,hzz,rfl⟩:=e2
            clear hzz
            have q0:=(hla.cell j 0 hyl (by omega)).1
            have q2:=(hla.cell j 2 hyl (by omega)).1
            have qf:=(hla.cell j 2 hyl (by omega)).2
            obtain ⟨y,hy⟩:∃ y,y=(M item).ys[j]:=⟨_,rfl⟩
            rw [← hy] at q0 q2
            simp only [layC,List.getElem?_cons_zero,List.getElem?_cons_succ,Nat.add_zero] at q0 q2
            have r1:=hS.c1
            have x3:=hX.c3
            have hpz:(0:Int) < price:=by omega
            have HS:=hidE hS
            have HX:=hidE hX
            have HNO:=hidE hno
            have HYY:=hidE hy
            have hcj:j < ys.length:=hjl
            clear hS hX hno hy hla hlen
            by_cases hid:y.id=ofI
            ·have hd:(y.id == ofI)=true:=by simp [hid]
             have hwrp:IntKind.i64.wrap (y.val + price)=y.val + price:=by
              have h1:=mem_sum HOK.out.ok (List.getElem_mem hyl)
              have h2:=HOK.out.ok _ (List.getElem_mem hyl)
              have h3:=HOK.out.v
              have h4:=HRT.out.2.2
              rw [← HYY.out] at h1 h2
              unfold LayOK at h2
              unfold rtK at h4
              simp only at h4
              exact IntWalk.i64_in _ ⟨by omega,by omega⟩
             go_wp2_with fail
             go_quiet (fail)
             obtain ⟨wn,hwn⟩:∃ X,X=wr.drewN nq:=⟨_,rfl⟩
             have bd:Below wr.heap.size wr wn:=by rw [hwn];exact below_drewN (Below.refl _ _) nq
             rw [← hwn]
             clear hwn
             go_wp2_with fail
             refine wp_region_preG (fun a b=>b=a) [(false,0),(true,1),(false,2),(true,3),(true,4),(false,5),(false,6),(false,7),(true,8),(false,9),(true,10),(false,11),(false,12),(false,13)] [14] 1 (fun _=>rfl) (fun a b c h1 h2=>h2.trans h1) (by kernel_rfl) (by kernel_rfl) ?_
             obtain ⟨W6,hW6⟩:∃ W,W=wn.drew:=⟨_,rfl⟩
             rw [← hW6]
             have b6:Below wr.heap.size wr W6:=by rw [hW6];exact bd.trans ((below_drew _).mono bd.size)
             clear hW6 bd
             have E6:=HE.out.below b6
             have S6:=HS.out.below b6
             have X6:=HX.out.below b6
             have B6:Below wa.heap.size wa W6:=HB.out.trans (b6.mono HB.out.size)
             have gr1:∀ m:UpK (fun a b=>b=a) W6,m.v.cell? ⟨rb,1,none⟩=some (.map (some mb)):=fun m=>by rw [m.h];exact S6.c1
             have ge1:∀ m:UpK (fun a b=>b=a) W6,m.v.cell? ⟨eb,1,none⟩=some (.string item):=fun m=>by rw [m.h];exact E6.c1
             have ge4:∀ m:UpK (fun a b=>b=a) W6,m.v.cell? ⟨eb,4,none⟩=some (.int .i64 price):=fun m=>by rw [m.h];exact E6.c4
             have gq2:∀ m:UpK (fun a b=>b=a) W6,m.v.cell? ⟨g2,o2 + j * 3 + 2,none⟩=some (.int .i64 y.val):=fun m=>by rw [m.h];exact below_cell b6 q2
             have glk:∀ m:UpK (fun a b=>b=a) W6,(Instr.lookup 262 (.map (some mb)) (.string item) false).run Tryz.prog m.v = .ok (.slice (some ⟨g2,o2,none⟩) ys.length cp2) m.v:=fun m=>by rw [m.h,← HV.out];exact S6.lay.look item hxs
             have hU:∀ w:World,Nonempty (UpK (fun a b=>b=a) w):=fun w=>⟨⟨w,rfl⟩⟩
             have hA:=anyW_ne
             have hq6:=below_cell b6 q2
             have hf6:W6.frozen? ⟨g2,o2 + j * 3 + 2,none⟩=false:=(b6.frozen (p:=⟨g2,o2 + j * 3 + 2,none⟩) (World.block_lt_of_cell? _ _ q2)).trans qf
             have hgw:wa.heap.size≤g2:=by have:=(S6.lay.ge item g2 (by rw [HV.out];rfl)).1;have:=HRB.out;omega
             have hhit:=hidE (LateP.hit E6 B6 S6 X6 HV.out hyl HYY.out HNO.out hid HAP.out HAE.out hxe hwx hgw)
             clear E6 S6 X6 B6 b6 hlk q0 q2 qf r1 x3 e1 e4 e5
             repeat (first | refine preG_p rfl ?_ | refine preG_q rfl ?_);go_big_quiet_step (fail);refine wpQuiet_nil ?_
             refine preG_nil ?_
             clear gr1 ge1 ge4 gq2 glk
             refine anyG_all [14] (by kernel_rfl) ?_
             intro i hi14
             obtain rfl:i=14:=by simpa using hi14
             clear hi14
             refine eOpG_turn rfl (by simp) ?_
             go_wp2_with fail
             refine ⟨rfl,?_⟩
             refine anyG_nil (by kernel_rfl) ?_
             obtain ⟨W7,hW7⟩:∃ W,W=W6.setCell ⟨g2,o2 + j * 3 + 2,none⟩ (.int .i64 (y.val + price)):=⟨_,rfl⟩
             rw [← hW7] at hhit
             rw [← hW7]
             have e4:=hhit.out.2.1.c4
             have x1:=hhit.out.2.2.c1
             have f1:=hhit.out.2.2.f0 1
             have x3:=hhit.out.2.2.c3
             have f3:=hhit.out.2.2.f0 3
             have HLJ:=hidE hhit.out.1
             simp only at e4
             clear hW7 hhit hq6 hf6
             go_wp2
             go_roundw
             case rel=>exact ⟨j + 1,by omega,by go_num,HLJ⟩
             case measure=>simp [intOf];omega
            ·have hd:(y.id == ofI)=false:=by simp [hid]
             go_wp2_with fail
             go_quiet (fail)
             obtain ⟨wn,hwn⟩:∃ X,X=wr.drewN nq:=⟨_,rfl⟩
             have HLJ:Hid (LateP wm.heap.size wa wn rb mb lb n n2 D D2 V M (.slice adu nu cu) ls (.slice (some ⟨g,o,none⟩) fs.length cp) fs ⟨id,item,2,qty,price,ofI,day⟩ xb eb (j + 1)):=by
              have bd:Below wr.heap.size wr wn:=by rw [hwn];exact below_drewN (Below.refl _ _) nq
              refine ⟨HE.out.below bd,HB.out.trans (bd.mono HB.out.size),Or.inl ⟨fun i y' hi hy'=>?_,HS.out.below bd,HX.out.below bd⟩⟩
              by_cases c:i < j
              ·exact HNO.out i y' c hy'
              ·obtain rfl:i=j:=by omega
               simp only at hy'
               rw [List.getElem?_eq_getElem hyl,← HYY.out] at hy'
               injection hy' with hy'
               rw [← hy']
               exact hid
             rw [← hwn]
             clear hwn
             go_wp2
             go_roundw
             case rel=>exact ⟨j + 1,by omega,by go_num,HLJ⟩
             case measure=>simp [intOf];omega
          ·have hcl:=(chg_sum ofI price (M item).ys).2.2
           have hla:=hS.lay.lay item
           simp only [upd_same] at hla
           have hlk:∀ m,(Instr.lookup 262 (.map (some mb)) (.string item) false).run Tryz.prog (wr.drewN m) = .ok (.slice ad2 ys.length cp2) (wr.drewN m):=fun m=>by rw [← HV.out];exact (hS.lay.below (below_drewN (Below.refl _ _) m)).look item hxs
           rw [HV.out] at hla
           have hyl2:j < (chg ofI price (M item).ys).length:=by rw [hcl];exact hyl
           rcases hla.form with ⟨_,e2⟩ | ⟨g2,o2,cap2,e2,hg2,hc2,hc3⟩
           ·rw [e2] at hyl2;exact absurd hyl2 (Nat.not_lt_zero _)
           ·simp only [Value.slice.injEq] at e2
            obtain ⟨rfl,hzz,rfl⟩:=e2
            clear hzz
            have q0:=(hla.cell j 0 hyl2 (by omega)).1
            obtain ⟨y,hy⟩:∃ y,y=(chg ofI price (M item).ys)[j]:=⟨_,rfl⟩
            rw [← hy] at q0
            simp only [layC,List.getElem?_cons_zero,Nat.add_zero] at q0
            have r1:=hS.c1
            have x3:=hX.c3
            have HS:=hidE hS
            have HX:=hidE hX
            have HYES:=hidE hyes
            have hcj:j < ys.length:=hjl
            obtain ⟨dd,hdd⟩:∃ b:Bool,(y.id == ofI)=b:=⟨_,rfl⟩
            clear hS hX hyes hy hla hlen hcl hyl2 hc2 hc3
            have HLX:Hid (∀ nq:Nat,LateP wm.heap.size wa (wr.drewN nq) rb mb lb n n2 D D2 V M (.slice adu nu cu) ls (.slice (some ⟨g,o,none⟩) fs.length cp) fs ⟨id,item,2,qty,price,ofI,day⟩ xb eb (j + 1)):=fun nq=>by
             have bd:Below wr.heap.size wr (wr.drewN nq):=below_drewN (Below.refl _ _) nq
             exact ⟨HE.out.below bd,HB.out.trans (bd.mono HB.out.size),Or.inr ⟨HYES.out,HS.out.below bd,HX.out.below bd⟩⟩
            cases dd with
            | true=>
             go_wp2_with fail
             go_quiet (fail)
             have HLJ:=hidE (HLX.out nq)
             obtain ⟨wn,hwn⟩:∃ X,X=wr.drewN nq:=⟨_,rfl⟩
             rw [← hwn] at HLJ
             rw [← hwn]
             clear hwn
             go_wp2
             go_roundw
             case rel=>exact ⟨j + 1,by omega,by go_num,HLJ⟩
             case measure=>simp [intOf];omega
            | false=>
             go_wp2_with fail
             go_quiet (fail)
             have HLJ:=hidE (HLX.out nq)
             obtain ⟨wn,hwn⟩:∃ X,X=wr.drewN nq:=⟨_,rfl⟩
             rw [← hwn] at HLJ
             rw [← hwn]
             clear hwn
             go_wp2
             go_roundw
             case rel=>exact ⟨j + 1,by omega,by go_num,HLJ⟩
             case measure=>simp [intOf];omega
         ·have hjj:j=(M item).ys.length:=by have:=HYS.out;rw [← this];omega
          subst hjj
          have HP:=hidE (HJ.out.done (Nat.le_succ_of_le hnk) (Nat.le_succ_of_le hnk2))
          go_wp2
          go_meet
          case rel=>exact HP
       ·by_cases k3:kind=3
        ·subst k3
         have z1:=HE4.out.c1
         have z3:=HE4.out.c3
         simp only at z1 z3
         have hc:=refTake_any HS4.out.lay HS4.out.c1 hbw4 item hxs qty (rt_qty HRT.out).1 (Int.le_trans (rt_qty HRT.out).2 (by decide)) HOK.out.ok (by have:=HOK.out.v;omega) (by have:=HOK.out.len;omega) hnm (HGL.out.below HB4.out)
         go_wp2_with fail
         refine hc.mono ?_
         rintro r W5 ⟨rfl,nv,hl5,hf5,hg5⟩
         have T5:=took HS4.out HX4.out HAP.out HB4.out hwm hl5 hf5 hg5
         have HP:=hidE (step3 (price:=price) (ofI:=ofI) (day:=day) (Nat.succ_le_succ hnk) (Nat.le_succ_of_le hnk2) hwx T5)
         obtain ⟨tv,htv⟩:∃ t,t=(tk (M item).ys qty).2.1:=⟨_,rfl⟩
         obtain ⟨ts,hts⟩:∃ t,t=(tk (M item).ys qty).2.2:=⟨_,rfl⟩
         rw [← htv,← hts] at HP
         rw [← htv,← hts]
         have x1:=T5.2.1.c1
         have x2:=T5.2.1.c2
         have f1:=T5.2.1.f0 1
         have f2:=T5.2.1.f0 2
         clear hc hl5 hf5 hg5 T5 htv hts
         go_wp2
         go_meet
         case rel=>exact HP
        ·have z1:=HE4.out.c1
         have z3:=HE4.out.c3
         simp only at z1 z3
         by_cases k4:th < qty
         ·have hth:=HTH.out
          have hb:=mul_bound (q:=qty - th) (p:=(M item).price) (by omega) (by have:=(rt_qty HRT.out).2;have:=(sum_nonneg HOK.out.ok).1;simp only at *;omega) HOK.out.p.1 HOK.out.p.2
          have hwr:IntKind.i64.wrap (qty - th)=qty - th:=IntWalk.i64_in _ ⟨by have:=(rt_qty HRT.out).2;have:=(sum_nonneg HOK.out.ok).1;simp only at *;omega,by have:=(rt_qty HRT.out).2;have:=(sum_nonneg HOK.out.ok).1;simp only at *;omega⟩
          clear hth
          obtain ⟨pr,hpr⟩:∃ t,t=(M item).price:=⟨_,rfl⟩
          rw [← hpr] at hb
          have hwm2:IntKind.i64.wrap ((qty - th) * pr)=(qty - th) * pr:=IntWalk.i64_in _ ⟨by omega,by omega⟩
          have HPR:Hid (pr=(M item).price):=hpr
          clear hpr
          go_wp2_with fail
          refine wp_region_preG (fun a b=>SameAt eb a b∧SameAt lb a b) [(false,0),(true,1),(false,2),(false,3),(false,4),(false,5),(true,6),(true,7),(false,8),(false,9)] [] 3 (fun _=>⟨rfl,rfl⟩) (fun a b c h1 h2=>⟨sameAt_trans eb a b c h1.1 h2.1,sameAt_trans lb a b c h1.2 h2.2⟩) (by kernel_rfl) (by kernel_rfl) ?_
          obtain ⟨W5,hW5⟩:∃ W,W=W4.drew:=⟨_,rfl⟩
          rw [← hW5]
          have hb5:Below W4.heap.size W4 W5:=by rw [hW5];exact below_drew _
          clear hW5
          have hE5:=HE4.out.below hb5
          have S5:=HS4.out.below hb5
          have g1:∀ m:UpK (fun a b=>SameAt eb a b∧SameAt lb a b) W5,m.v.cell? ⟨eb,1,none⟩=some (.string item):=fun m=>(World.cell?_of_block (a:=⟨eb,1,none⟩) m.h.1).trans hE5.c1
          have g3:∀ m:UpK (fun a b=>SameAt eb a b∧SameAt lb a b) W5,m.v.cell? ⟨eb,3,none⟩=some (.int .i64 qty):=fun m=>(World.cell?_of_block (a:=⟨eb,3,none⟩) m.h.1).trans hE5.c3
          have gl:∀ m:UpK (fun a b=>SameAt eb a b∧SameAt lb a b) W5,(Instr.lookup 295 (.map (some lb)) (.string item) false).run Tryz.prog m.v = .ok (.int .i64 pr) m.v:=fun m=>by rw [HPR.out];exact last_look (map_same S5.last m.h.2) S5.pr item hxs
          have hU:∀ w:World,Nonempty (UpK (fun a b=>SameAt eb a b∧SameAt lb a b) w):=fun w=>⟨⟨w,rfl,rfl⟩⟩
          have hA:=anyW_ne
          have X5:=HX4.out.below hb5
          have T5:=wrote S5 (X5.s4 true) hE5 HAP.out hxe (HB4.out.trans (hb5.mono HB4.out.size)) hwx
          have HT6:=hidE (wrote T5.1 (T5.2.1.s1 ((qty - th) * pr)) T5.2.2.1 HAP.out hxe T5.2.2.2 hwx)
          have x4:=X5.c4
          have f4:=X5.f0 4
          have x1:=X5.c1
          have f1:=X5.f0 1
          clear hE5 X5 S5 T5
          have hs5:=hb5.size
          repeat (first | refine preG_p rfl ?_ | refine preG_q rfl ?_);go_big_quiet_step (fail);refine wpQuiet_nil ?_
          refine preG_nil ?_
          clear g1 g3 gl
          refine anyG_all [10] (by kernel_rfl) ?_
          intro i hi10
          obtain rfl:i=10:=by simpa using hi10
          clear hi10
          refine eOpG_keep rfl ?_
          go_wp2_with fail
          refine ⟨rfl,⟨Below.heap_setCell _ _ _ _ (by show eb ≠ xb;exact hxe.symm),Below.heap_setCell _ _ _ _ (by show lb ≠ xb;exact HAP.out.l)⟩,?_⟩
          refine anyG_all [11] (by kernel_rfl) ?_
          intro i hi11
          obtain rfl:i=11:=by simpa using hi11
          clear hi11
          refine eOpG_keep rfl ?_
          go_wp2_with fail
          refine ⟨rfl,⟨rfl,rfl⟩,?_⟩
          refine anyG_all [12] (by kernel_rfl) ?_
          intro i hi12
          obtain rfl:i=12:=by simpa using hi12
          clear hi12
          refine eOpG_keep rfl ?_
          go_wp2_with fail
          refine ⟨rfl,⟨Below.heap_setCell _ _ _ _ (by show eb ≠ xb;exact hxe.symm),Below.heap_setCell _ _ _ _ (by show lb ≠ xb;exact HAP.out.l)⟩,?_⟩
          refine anyG_nil (by kernel_rfl) ?_
          obtain ⟨W6,hW6⟩:∃ W,W=(W5.setCell ⟨xb,4,none⟩ (.bool true)).setCell ⟨xb,1,none⟩ (.int .i64 ((qty - th) * pr)):=⟨_,rfl⟩
          rw [← hW6] at HT6
          rw [← hW6]
          have hs6:W6.heap.size=W5.heap.size:=by rw [hW6];simp
          clear hW6 x1 f1 x4 f4 z1 z3
          have z3:=HT6.out.2.2.1.c3
          have x1:=HT6.out.2.1.c1
          simp only at z3
          have hc:=refPut_any HT6.out.1.lay HT6.out.1.c1 (by omega) ⟨id,item,kind,qty,price,ofI,day⟩ HT6.out.2.2.1 hxs (qty - th) ((qty - th) * pr) (by have:=HOK.out.len;simp only;omega) hnm
          simp only at hc
          go_wp2_with fail
          refine hc.mono ?_
          rintro r WA ⟨rfl,nv,hlA,hfA,hgA⟩
          have TA:=took HT6.out.1 HT6.out.2.1 HAP.out HT6.out.2.2.2 hwm hlA hfA hgA
          rw [HPR.out,HTH.out] at TA
          rw [HTH.out] at k4
          have HP:=hidE (step4 (price:=price) (ofI:=ofI) (day:=day) (Nat.succ_le_succ hnk) (Nat.le_succ_of_le hnk2) k1 k2 k3 k4 TA)
          clear hc hlA hfA hgA TA z3 x1 k4
          go_wp2
          go_meet
          case rel=>exact HP
         ·have hth:=HTH.out
          have hqs:0≤th - qty∧th - qty≤1000000000:=by have:=HOK.out.q;have:=(rt_qty HRT.out).1;simp only at this;omega
          have hc:=refTake_any HS4.out.lay HS4.out.c1 hbw4 item hxs (th - qty) hqs.1 hqs.2 HOK.out.ok (by have:=HOK.out.v;omega) (by have:=HOK.out.len;omega) hnm (HGL.out.below HB4.out)
          have hwr:IntKind.i64.wrap (th - qty)=th - qty:=IntWalk.i64_in _ ⟨by omega,by omega⟩
          clear hth
          go_wp2_with fail
          refine hc.mono ?_
          rintro r W5 ⟨rfl,nv,hl5,hf5,hg5⟩
          have T5:=took HS4.out HX4.out HAP.out HB4.out hwm hl5 hf5 hg5
          rw [HTH.out] at T5 k4
          have HP:=hidE (step5 (price:=price) (ofI:=ofI) (day:=day) (Nat.succ_le_succ hnk) (Nat.le_succ_of_le hnk2) hwx k1 k2 k3 (Int.not_lt.2 k4) T5)
          rw [← HTH.out] at HP
          obtain ⟨tv,htv⟩:∃ t,t=(tk (M item).ys (th - qty)).2.1:=⟨_,rfl⟩
          obtain ⟨ts,hts⟩:∃ t,t=(tk (M item).ys (th - qty)).2.2:=⟨_,rfl⟩
          rw [← htv] at HP
          rw [← htv,← hts]
          have x1:=T5.2.1.c1
          have f1:=T5.2.1.f0 1
          clear hc hl5 hf5 hg5 T5 htv hts k4
          go_wp2
          go_meet
          case rel=>exact HP
     case rest=>
      obtain ⟨n',n2',D',D2',V',hn',hn2',HS5,HX5,HB5⟩:=hcut
      obtain ⟨W5,rfl⟩:∃ x,x=wc:=⟨_,rfl⟩
      obtain ⟨s',hs'⟩:∃ t,t=(doE (M item) ⟨id,item,kind,qty,price,ofI,day⟩).1:=⟨_,rfl⟩
      obtain ⟨Y,hY⟩:∃ t,t=(doE (M item) ⟨id,item,kind,qty,price,ofI,day⟩).2:=⟨_,rfl⟩
      simp only at HS5 HX5
      rw [← hs'] at HSN HS5
      rw [← hY] at HSN HX5
      clear hs' hY
      obtain ⟨y0,y1,y2,y3,y4⟩:=Y
      simp only at HX5
      have x0:=HX5.out.c0
      have x1:=HX5.out.c1
      have x2:=HX5.out.c2
      have x3:=HX5.out.c3
      have x4:=HX5.out.c4
      have r0:=HS5.out.c0
      have rf:=HS5.out.f0
      have hbw:wm.heap.size≤W5.heap.size:=by have:=HB5.out.size;have:=HS5.out.rlt;have:=HRB.out.2.2;have:=HS5.out.last.lt;omega
      clear z2 HX5
      obtain ⟨W6,hW6⟩:∃ W,W=W5.alloc (.cells #[.int .i64 y0,.int .i64 y1,.int .i64 y2,.int .i64 y3,.bool y4] 267):=⟨_,rfl⟩
      have HW6:Hid (W6=W5.alloc (.cells #[.int .i64 y0,.int .i64 y1,.int .i64 y2,.int .i64 y3,.bool y4] 267)):=hW6
      clear hW6
      go_wp2_with (first
       | (at_builtin;refine wpList_append_new _ rfl _ _ 261 rfl wm.heap.size 267 i0 linZ 5 40 Tryz.underlying261 hi hz0 hz1 hz2 rfl (by decide) (.slice adu nu cu) _ _ rfl (HS5.out.own.alloc _) ⟨W5.heap.size,0,none⟩ 1 1 (linC ⟨y0,y1,y2,y3,y4⟩) rfl rfl ?d1 ?d2 ?d3 ?d4 ?d5 (by omega) ?_)
       | go_in)
      case d1=>exact cells_of_list rfl
      case d2=>exact linC_one _
      case d3=>unfold maxLen;omega
      case d4=>omega
      case d5=>simp;omega
      rw [← HW6.out]
      intro u' w7 hown7 hgr7 hfr7
      have hb6:Below W5.heap.size W5 W6:=by rw [HW6.out];exact (Below.refl _ _).alloc (Nat.le_refl _) _
      have HL:Hid (RunR wm.heap.size (w7.setCell ⟨rb,0,none⟩ u') rb mb lb n' n2' D' D2' V' (upd M item s') u' (ls ++ [⟨y0,y1,y2,y3,y4⟩]) _ fs):=HS5.out.line hb6 hgr7 hfr7 (by
       rw [List.length_append,List.flatMap_append]
       simp only [List.flatMap_cons,List.flatMap_nil,List.append_nil,List.length_cons,List.length_nil]
       first | exact hown7 | (rw [hsm];exact hown7))
      have r7:w7.cell? ⟨rb,0,none⟩=some (.slice adu nu cu)∧w7.frozen? ⟨rb,0,none⟩=false:=by
       have er:w7.heap[rb]?=W6.heap[rb]?:=hgr7.block rb (by have:=HS5.out.rlt;have:=hb6.size;omega) (fun e=>HS5.out.u1 e.symm)
       exact ⟨(World.cell?_of_block (a:=⟨rb,0,none⟩) er).trans (below_cell hb6 r0),(World.frozen?_of_block (a:=⟨rb,0,none⟩) er).trans ((hb6.frozen (p:=⟨rb,0,none⟩) HS5.out.rlt).trans rf)⟩
      have HB7:Hid (Below wa.heap.size wa (w7.setCell ⟨rb,0,none⟩ u')):=by
       have hug:∀ j,(Value.slice adu nu cu).ownBlock=some j→wa.heap.size≤j:=fun j hj=>by have:=(HS5.out.own.lt j hj).1;omega
       have b6:Below wa.heap.size wa W6:=HB5.out.trans (hb6.mono HB5.out.size)
       refine ⟨hgr7.os.trans b6.os,hgr7.tape.trans b6.tape,hgr7.output.trans b6.output,by have:=hgr7.size;have:=b6.size;simp;omega,fun j hj=>?_⟩
       rw [Below.heap_setCell _ _ _ _ (by show j ≠ rb;have:=HRB.out.2.1;omega),hgr7.block j (by have:=b6.size;omega) (fun e=>by have:=hug j e.symm;omega),b6.block j hj]
      obtain ⟨ad7,n7,cp7,hu7⟩:=own_len' hown7
      subst hu7
      have r71:=r7.1
      have r72:=r7.2
      clear hown7 hgr7 hfr7 hb6 r0 rf x0 x1 x2 x3 x4 r7 HW6
      go_wp2
      go_roundw
      case rel=>
       refine ⟨k + 1,n',n2',D',D2',V',.slice ad7 n7 cp7,by omega,by go_num,hn',hn2',?_,HB7⟩
       rw [HSN.out.1,HSN.out.2]
       exact HL
      case measure=>simp [intOf];omega
    ·have hno:=filt_no hlt (fun c=>by have:=hr.2 (by rw [HX.out];exact (rtB_iff _).1 c);cases this)
     have HNO:Hid ((fs.take (k + 1)).filter rtB=(fs.take k).filter rtB):=hno
     clear hno hr hE2
     go_wp2
     go_roundw
     case rel=>
      refine ⟨k + 1,n,n2,D,D2,V,u,by omega,by go_num,by omega,by omega,?_,HBW2⟩
      rw [HNO.out]
      exact HS2
     case measure=>simp [intOf];omega
  ·have hkk:k=fs.length:=by omega
   subst hkk
   rw [List.take_length] at HS
   obtain ⟨WS,hWS⟩:∃ x,x=wr:=⟨_,rfl⟩
   rw [← hWS] at HS HB
   rw [← hWS]
   clear hWS
   obtain ⟨M,hM⟩:∃ M,M=goS stk00 (fs.filter rtB):=⟨_,rfl⟩
   obtain ⟨ls,hls⟩:∃ ls,ls=goL stk00 (fs.filter rtB):=⟨_,rfl⟩
   rw [← hM,← hls] at HS
   have HMM:Hid (M=goS stk00 (fs.filter rtB)∧ls=goL stk00 (fs.filter rtB)):=⟨hM,hls⟩
   have HD0:Hid (Dels D (has D) V M):=Dels.start HS.out.lay
   have r1:=HS.out.c1
   obtain ⟨adu,nu,cu,hu⟩:=own_len' HS.out.own
   subst hu
   have hsWS:rb < WS.heap.size:=HS.out.rlt
   have hmWS:mb < WS.heap.size:=HS.out.lay.map.lt
   clear hM hls
   go_wp2_with (first
    | (at_range;refine wpList_range_own _ rfl _ 262 rfl 9 297 law_strT Tryz.underlying262 heldE mb n D rfl HS.out.lay.map ?_)
    | go_in)
   intro wR hrg0 hg0 hsR
   have HR0:Hid (wR.ranges Tryz.prog 9 heldE mb WS.heap.size n D (Maps.has D) (Maps.size D)):=hrg0
   have HG0:Hid (WS.grownBy wR (some mb)):=⟨hg0.os,hg0.tape,hg0.output,hg0.size,fun j hj _=>hg0.block j hj (by simp)⟩
   clear hrg0 hg0 r1
   go_wp2
   go_loopw [] (fun wr=>∃ (left:Lit→Bool) (cnt:Nat) (D':DataW Value),Hid (wr.ranges Tryz.prog 9 heldE mb WS.heap.size n D' left cnt)∧Hid (Dels D' left V M)∧Hid (WS.grownBy wr (some mb))) (fun wr=>wr.rangeLeft mb WS.heap.size)
   case atStart=>exact ⟨_,_,_,HR0,HD0,HG0⟩
   case round=>
    obtain ⟨left,cnt,D',HR,HD,HG⟩:=hrel
    have hblk:∀ j,j < WS.heap.size→j ≠ mb→wr.heap[j]?=WS.heap[j]?:=fun j hj hm=>HG.out.block j hj (by intro e;injection e with e;exact hm e)
    have r0:wr.cell? ⟨rb,0,none⟩=some (.slice adu nu cu):=(World.cell?_of_block (a:=⟨rb,0,none⟩) (hblk rb hsWS HS.out.d1)).trans HS.out.c0
    have r1:wr.cell? ⟨rb,1,none⟩=some (.map (some mb)):=(World.cell?_of_block (a:=⟨rb,1,none⟩) (hblk rb hsWS HS.out.d1)).trans HS.out.c1
    go_wp2_with (at_next;refine wpList_next_ranges _ rfl _ rfl 9 law_strT heldE Value.string (fun c:Value=>c) (fun key kl hkey=>by obtain ⟨s,hs⟩:=Maps.keyOf_string_inv Tryz.underlying9 hkey;exact ⟨s,hs⟩) (fun v y _=>⟨v,rfl⟩) mb WS.heap.size n D' left cnt rfl HR.out ?_ ?_)
    ·intro hc0 hl0
     have HL0:Hid (∀ kl,left kl=false):=hl0
     have bW:Below wa.heap.size wa wr:=by
      have hm:=HRB.out.1
      exact HB.out.grown HG.out HB.out.size (fun j e=>by cases e;omega)
     have c0:=(bW.cell (p:=⟨w.heap.size,0,none⟩) (by show w.heap.size < _;omega)).trans HRV.out.1
     have c1:=(bW.cell (p:=⟨w.heap.size,1,none⟩) (by show w.heap.size < _;omega)).trans HRV.out.2.1
     have z0:=(bW.frozen (p:=⟨w.heap.size,0,none⟩) (by show w.heap.size < _;omega)).trans (HRV.out.2.2.1 0)
     have z1:=(bW.frozen (p:=⟨w.heap.size,1,none⟩) (by show w.heap.size < _;omega)).trans (HRV.out.2.2.1 1)
     have hBw:Below w.heap.size w wr:=HRV.out.2.2.2.trans (bW.mono (by omega))
     have HRES:Hid (ResAt w.heap.size ((wr.setCell ⟨w.heap.size,0,none⟩ (.slice adu nu cu)).setCell ⟨w.heap.size,1,none⟩ (.map (some mb))) (.agg #[.slice adu nu cu,.map (some mb)]) M ls):=by
      have hm:=HRB.out
      have blk:∀ j,j ≠ w.heap.size→((wr.setCell ⟨w.heap.size,0,none⟩ (.slice adu nu cu)).setCell ⟨w.heap.size,1,none⟩ (.map (some mb))).heap[j]?=wr.heap[j]?:=fun j hj=>by
       rw [Below.heap_setCell _ _ _ _ (by show j ≠ w.heap.size;exact hj),Below.heap_setCell _ _ _ _ (by show j ≠ w.heap.size;exact hj)]
      refine ⟨.slice adu nu cu,mb,n,D',V,rfl,by omega,fun x k hk=>by have:=(HS.out.lay.ge x k hk).1;omega,?_⟩
      refine ⟨map_same HR.out.owns (blk _ (by omega)),fun x hx=>HD.out.no x hx (HL0.out _),fun x hx z=>HD.out.al x (HD.out.has_ x hx) z,fun x=>?_,?_⟩
      ·refine (HS.out.lay.lay x).kept fun k hk=>?_
       have hg:=HS.out.lay.ge x k hk
       rw [blk k (by omega),hblk k ((HS.out.lay.lay x).lt hk) hg.2]
      ·refine own_low2 (row_same HS.out.own fun k hk=>?_) (by omega)
       have hl:=HS.out.own.lt k hk
       rw [blk k (by omega),hblk k hl.2 (fun e=>HS.out.u2 (by rw [hk,e]))]
     have HBF:Hid (Below w.heap.size w ((wr.setCell ⟨w.heap.size,0,none⟩ (.slice adu nu cu)).setCell ⟨w.heap.size,1,none⟩ (.map (some mb)))):=(hBw.setCell (p:=⟨w.heap.size,0,none⟩) (Nat.le_refl _) _).setCell (p:=⟨w.heap.size,1,none⟩) (Nat.le_refl _) _
     have e0:((wr.setCell ⟨w.heap.size,0,none⟩ (.slice adu nu cu)).setCell ⟨w.heap.size,1,none⟩ (.map (some mb))).cell? ⟨w.heap.size,0,none⟩=some (.slice adu nu cu):=(set_other (by simp)).trans (set_same c0)
     have e1:((wr.setCell ⟨w.heap.size,0,none⟩ (.slice adu nu cu)).setCell ⟨w.heap.size,1,none⟩ (.map (some mb))).cell? ⟨w.heap.size,1,none⟩=some (.map (some mb)):=set_same ((set_other (by simp)).trans c1)
     have HE:=hidE (And.intro e0 e1)
     have HFin:Hid (M=goS stk00 (ordd l)∧ls=goL stk00 (ordd l)):=by
      have e:fs.filter rtB=ordd l:=by rw [HFS.out];exact (stl_filter_all l rtB).symm
      rw [← e];exact HMM.out
     clear hc0 hl0 bW hBw e0 e1 hblk
     go_wp2
     have e0:=HE.out.1
     have e1:=HE.out.2
     refine bodyPost_ret (v:=.agg #[.slice adu nu cu,.map (some mb)]) (by simp [results,Tryz.results188,go_sem,e0,e1]) rfl ⟨_,rfl,?_,HBF.out⟩
     rw [← HFin.out.1,← HFin.out.2]
     exact HRES.out
    ·intro x c kl yd yp w2 cnt2 hkey hlk hcv hat hrg2 hlt2 hgr2 hsz2 hen
     obtain ⟨rfl,hxs⟩:=key_str_inv hkey
     have hcx:c=V x:=by
      have h1:=HD.out.al x (has_true_of_atKey hat) (.held (.slice none 0 0))
      rw [hat,heldE_inv hcv] at h1
      exact held_inj h1
     obtain ⟨ad1,n1,cp1,hVs⟩:=(HS.out.lay.lay x).slice
     have hn1:n1=(M x).ys.length:=by have:=HS.out.lay.lay x;rw [hVs] at this;exact this.nilOf
     rw [hVs] at hcx
     subst hcx
     have HR2:Hid (w2.ranges Tryz.prog 9 heldE mb WS.heap.size n D' (fun z=>left z && !z.sameKey (keyB x)) cnt2):=hrg2
     have HG2:Hid (WS.grownBy w2 (some mb)):=grownI HG.out hgr2 (Nat.le_refl _)
     have HLV:Hid (wr.rangeLeft mb WS.heap.size=cnt):=HR.out.left_eq
     have r12:w2.cell? ⟨rb,1,none⟩=some (.map (some mb)):=(World.cell?_of_block (a:=⟨rb,1,none⟩) (HG2.out.block rb hsWS (by intro e;injection e with e;exact HS.out.d1 e))).trans HS.out.c1
     clear hrg2 hat hcv hlk hkey hgr2 r0 r1 hblk
     by_cases hys:(M x).ys=[]
     ·have hn0:n1=0:=by rw [hn1,hys];rfl
      clear hn1
      subst hn0
      have HD2:=hidE (HD.out.drop x hys)
      go_wp2_with (first
       | (at_delete;refine wpList_delete_ranges _ rfl _ _ 262 9 rfl 297 law_strT Tryz.underlying262 heldE mb WS.heap.size n D' _ cnt2 rfl HR2.out _ (keyB x) rfl (key_str x hxs) ?_)
       | go_in)
      intro w3 cnt3 hrg3 hle3 hmt3
      have HR3:Hid (w3.ranges Tryz.prog 9 heldE mb WS.heap.size n (D'.del (keyB x)) (fun z=>left z && !z.sameKey (keyB x)) cnt3):=hrg3
      have HG3:Hid (WS.grownBy w3 (some mb)):=grownT HG2.out hmt3.grown
      have hlt3:cnt3 < cnt:=Nat.lt_of_le_of_lt hle3 hlt2
      clear hrg3 hle3 hmt3 r12
      go_wp2
      go_roundw
      case rel=>exact ⟨_,cnt3,_,HR3,HD2,HG3⟩
      case measure=>
       rw [HLV.out,HR3.out.left_eq]
       exact hlt3
     ·have hn0:0 < n1:=by rw [hn1];exact List.length_pos_iff.2 hys
      have hn2:(0:Int) < (n1:Int):=by omega
      have hn3:((n1:Int) == 0)=false:=by simp;omega
      have HD2:=hidE (HD.out.keep x hys)
      clear hn1 r12
      go_wp2
      go_roundw
      case rel=>exact ⟨_,cnt2,_,HR2,HD2,HG2⟩
      case measure=>
       rw [HLV.out,HR2.out.left_eq]
       exact hlt2
end Go.Proofs.YtdkhohlhdiekmaaGreatDoor
