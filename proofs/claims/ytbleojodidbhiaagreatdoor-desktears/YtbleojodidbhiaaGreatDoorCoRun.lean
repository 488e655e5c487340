/-  -/
import Derived.Test.YtbleojodidbhiaaGreatDoorBnL
import Derived.Sort.MapsRangeIn
namespace Go.Proofs.YtbleojodidbhiaaGreatDoor
open Go.RowKit Go.Maps
def linZ:Value:=.agg #[.int .i64 0,.int .i64 0,.int .i64 0,.int .i64 0,.bool false]
theorem Tryz.infoLin:(Tryz.prog.info? 180).map (fun i=>(i.zero,i.size,i.bytes))=some (some linZ,5,40):=by kernel_rfl
noncomputable def ordd (l:List Ev):List Ev:=stl (l.filter rtB)
theorem ordd_rt (l:List Ev):∀ e ∈ ordd l,Rt e:=fun e he=>by
 have:=(stl_perm (l.filter rtB)).mem_iff.1 he
 rw [List.mem_filter] at this
 exact (rtB_iff e).1 this.2
theorem ordd_len (l:List Ev):(ordd l).length≤l.length:=by
 unfold ordd;rw [stl_len];exact List.length_filter_le ..
theorem rt_size {e:Ev} (h:Rt e):e.item.size≤10:=by
 have:=h.1.1.2
 rw [eba_len] at this
 exact this
theorem key_str_inv {x:ByteArray} {kl:Lit} (h:keyOf Tryz.prog 9 (.string x)=some kl):kl=keyB x∧x.size≤maxLen:=by
 simp [keyOf,Tryz.underlying9,mapKey] at h
 exact ⟨h.2.symm,h.1⟩
theorem own_len' {w:World} {B:Nat} {T:TypeId} {m n:Nat} {v:Value} {xs:List Value} (h:w.ownsRow B T m v n xs):∃ ad n' cap,v = .slice ad n' cap:=by
 rcases h.2 with ⟨rfl,_⟩ | ⟨g,cap,cur,rfl,_⟩
 ·exact ⟨_,_,_,rfl⟩
 ·exact ⟨_,_,_,rfl⟩
set_option maxHeartbeats 4000000 in
theorem run_any (l:List Ev) (v:Value) (w:World) (h:EvsAt w v l) (hw:∀ e ∈ l,EvW e) (hl:l.length≤10000) :
  Calls Tryz.prog 170 #[v] w fun r w'=>∃ rv,r = .returned rv∧ResAt w.heap.size w' rv (goS stk00 (ordd l)) (goL stk00 (ordd l))∧Below w.heap.size w w':=by
 obtain ⟨i0,hi,hz0,hz1,hz2⟩:=info_parts Tryz.infoLin
 obtain ⟨wm,hwm⟩:∃ W,W=(w.alloc (.cells #[.slice none 0 0,.map none] 223)).alloc (.map #[] 0):=⟨_,rfl⟩
 have hBm:Below w.heap.size w wm:=by rw [hwm];exact ((Below.refl _ _).alloc (Nat.le_refl _) _).alloc (by simp) _
 have hsm:wm.heap.size=w.heap.size + 2:=by rw [hwm];simp
 have hmap:wm.ownsMap Tryz.prog 9 heldE (w.heap.size + 1) 0 (.map []):=by
  rw [hwm]
  have:=World.ownsMap_made (w.alloc (.cells #[.slice none 0 0,.map none] 223)) Tryz.prog 9 heldE
  simpa using this
 have hrb0:wm.cell? ⟨w.heap.size,0,none⟩=some (.slice none 0 0)∧wm.cell? ⟨w.heap.size,1,none⟩=some (.map none)∧wm.frozen? ⟨w.heap.size,0,none⟩=false∧wm.frozen? ⟨w.heap.size,1,none⟩=false:=by rw [hwm];simp
 have HRB:Hid _:=hrb0
 have hio:=inOrder_any l v wm (h.below hBm) hw (by omega)
 have HWM:Hid (wm=_):=hwm
 have hmm:=@run_makeMap Tryz.prog
 have hol:=ordd_len l
 have HRT:Hid (∀ e ∈ ordd l,Rt e):=ordd_rt l
 clear hwm
 go_enter Tryz.func170,Tryz.ntmps170
 go_wp2_with fail
 rw [← HWM.out]
 refine hio.mono ?_
 rintro r w1 ⟨ev,rfl,hown1,hb1⟩
 have hsz1:wm.heap.size≤w1.heap.size:=hb1.size
 have HB1:Hid (Below wm.heap.size wm w1):=hb1
 obtain ⟨fs,hfs⟩:∃ fs,fs=ordd l:=⟨_,rfl⟩
 have hown1':w1.ownsRow wm.heap.size 93 7 ev fs.length (fs.flatMap evC):=by rw [hfs];exact hown1
 rw [← hfs] at HRT hol
 have HFS:Hid (fs=ordd l):=hfs
 have HE1:Hid (EvsAt w1 ev fs):=EvsAt.of_own hown1'
 have hevb:∀ k,ev.ownBlock=some k→wm.heap.size≤k:=fun k hk=>(hown1'.lt k hk).1
 have HST:Hid (RunSt wm.heap.size w1 (w.heap.size + 1) 0 (.map []) (fun _=>.slice none 0 0) stk00 (.slice none 0 0) [] ev fs):=by
  refine ⟨map_same hmap (hb1.block _ (by omega)),fun x=>rfl,fun x=>LayAt.nil _,fun x k hk=>(by cases hk),fun x y _ k hk=>(by cases hk),World.ownsRow_nil _ _ _ _,(by simp [Value.ownBlock]),EvsAt.of_own hown1',fun e=>(by have:=hevb _ e;omega),fun k hk=>(by cases hk)⟩
 obtain ⟨ad,nn,cap,hev⟩:∃ ad n cap,ev = .slice ad n cap∧n=fs.length:=by
  rcases HE1.out with ⟨e,e2⟩ | ⟨g,o,c,e,_⟩
  ·exact ⟨none,0,0,e,by rw [e2];rfl⟩
  ·exact ⟨_,_,_,e,rfl⟩
 obtain ⟨rfl,hnn⟩:=hev
 subst hnn
 clear hio hb1 hown1 hown1' hfs hmap hrb0
 go_wp2
 go_loopw [3,15] (fun u i wr=>∃ (k:Nat) (D:DataW Value) (V:ByteArray→Value),k≤fs.length∧i = .int .i64 k∧Hid (RunSt wm.heap.size wr (w.heap.size + 1) k D V (goS stk00 (fs.take k)) u (goL stk00 (fs.take k)) (.slice ad fs.length cap) fs)∧Hid (Below (w.heap.size + 1) wm wr)) (fun _ i _=>fs.length - (intOf i).toNat)
 case atStart=>exact ⟨0,_,_,Nat.zero_le _,rfl,HST,HB1.out.mono (by omega)⟩
 case round=>
  obtain ⟨k,D,V,hk,rfl,HS,HB⟩:=hrel
  by_cases hlt:k < fs.length
  ·rcases HS.out.evs with ⟨e1,e2⟩ | ⟨g,o,cp,e1,hg,hc⟩
   ·rw [e2] at hlt;exact absurd hlt (Nat.not_lt_zero _)
   ·simp only [Value.slice.injEq] at e1
    obtain ⟨rfl,_,rfl⟩:=e1
    obtain ⟨x,hx⟩:∃ x,x=fs[k]:=⟨_,rfl⟩
    have hcw:∀ j,j < 7→wr.cell? ⟨g,o + k * 7 + j,none⟩=(evC x)[j]?:=fun j hj=>by rw [hc k j hlt hj,hx]
    have hxr:Rt x:=by rw [hx];exact HRT.out _ (List.getElem_mem hlt)
    have HXR:Hid (Rt x):=hxr
    have hxs:=rt_size hxr
    have hsn:=goS_snoc stk00 fs k hlt
    have hln:=goL_snoc stk00 fs k hlt
    rw [← hx] at hsn hln
    have hok:=(goS_ok (fs.take k) 0 stk00 (fun y=>stk0_ok 0) (fun e he=>HRT.out e (List.mem_of_mem_take he))).1 x.item
    have hok2:StkOK k (goS stk00 (fs.take k) x.item):=by
     have e:0 + (fs.take k).length=k:=by rw [List.length_take];omega
     rw [e] at hok;exact hok
    have HOK:Hid (StkOK k (goS stk00 (fs.take k) x.item)):=hok2
    obtain ⟨M,hM⟩:∃ M,M=goS stk00 (fs.take k):=⟨_,rfl⟩
    obtain ⟨ls,hls⟩:∃ ls,ls=goL stk00 (fs.take k):=⟨_,rfl⟩
    rw [← hM] at HS HOK hsn hln
    rw [← hls] at HS hln
    have HSN:Hid (goS stk00 (fs.take (k + 1))=upd M x.item (doE (M x.item) x).1):=hsn
    have HLN:Hid (goL stk00 (fs.take (k + 1))=ls ++ [(doE (M x.item) x).2]):=hln
    have hll:ls.length=k:=by rw [hls,goL_len,List.length_take];omega
    clear hsn hln hM hls hx hok hok2 hxr hc
    have q0:=hcw 0 (by omega)
    have q1:=hcw 1 (by omega)
    have q2:=hcw 2 (by omega)
    have q3:=hcw 3 (by omega)
    have q4:=hcw 4 (by omega)
    have q5:=hcw 5 (by omega)
    have q6:=hcw 6 (by omega)
    clear hcw
    obtain ⟨id,item,kind,qty,price,ofI,day⟩:=x
    simp only [evC,List.getElem?_cons_zero,List.getElem?_cons_succ,Nat.add_zero] at q0 q1 q2 q3 q4 q5 q6
    simp only at hxs HSN HLN HOK
    obtain ⟨W1,hW1⟩:∃ W,W=wr.alloc (.cells #[.int .i64 id,.string item,.int .i64 kind,.int .i64 qty,.int .i64 price,.int .i64 ofI,.int .i64 day] 93):=⟨_,rfl⟩
    have hb1:Below wr.heap.size wr W1:=by rw [hW1];exact (Below.refl _ _).alloc (Nat.le_refl _) _
    have hlk:(Instr.lookup 265 (.map (some (w.heap.size + 1))) (.string item) false).run Tryz.prog W1 = .ok (.agg #[V item,.int .i64 (M item).price]) W1:=by
     obtain ⟨v,ps,h1,h2⟩:=(HS.out.below hb1).map.lookup law_strT Tryz.underlying265 (zero_stk W1) (zd:=.held stkZ) (zp:=[]) rfl (key_str item (by unfold maxLen;omega))
     have h3:=heldE_inv h2
     rw [HS.out.at_ item] at h3
     rw [h1,← held_inj h3];rfl
    rw [hW1] at hlk
    obtain ⟨W2,hW2⟩:∃ W,W=W1.alloc (.cells #[V item,.int .i64 (M item).price] 268):=⟨_,rfl⟩
    have hb2:Below W1.heap.size W1 W2:=by rw [hW2];exact (Below.refl _ _).alloc (Nat.le_refl _) _
    have hb02:Below wr.heap.size wr W2:=hb1.trans (hb2.mono hb1.size)
    have hsz1':W1.heap.size=wr.heap.size + 1:=by rw [hW1];simp
    have hsz2':W2.heap.size=wr.heap.size + 2:=by rw [hW2,hW1];simp
    have hE1:EvAt W1 wr.heap.size ⟨id,item,kind,qty,price,ofI,day⟩:=by rw [hW1];constructor <;> simp
    have hS2:RunSt wm.heap.size W2 (w.heap.size + 1) k D V M u3 ls _ fs:=HS.out.below hb02
    have hvlt:∀ z j,(V z).ownBlock=some j→j < wr.heap.size:=fun z j hj=>(HS.out.lay z).lt hj
    obtain ⟨ad1,n1,cp1,hVs⟩:=(HS.out.lay item).slice
    have hst:StkAt W2 (wr.heap.size + 1) (V item) (M item):=by
     refine ⟨?_,?_,?_,?_,hS2.lay item,fun e=>by have:=hvlt _ _ e;omega⟩
     all_goals rw [hW2,← hsz1'];simp
    have hdo:=do_does hst HOK.out (by omega) ⟨id,item,kind,qty,price,ofI,day⟩ HXR.out.2.2
    unfold evV at hdo
    simp only at hdo
    have hE2:=hE1.below hb2
    have HW2:Hid (W2=(wr.alloc (.cells #[.int .i64 id,.string item,.int .i64 kind,.int .i64 qty,.int .i64 price,.int .i64 ofI,.int .i64 day] 93)).alloc (.cells #[V item,.int .i64 (M item).price] 268)):=by rw [hW2,hW1];rfl
    have HS2:Hid (RunSt wm.heap.size W2 (w.heap.size + 1) k D V M u3 ls _ fs):=hS2
    have HE2:Hid (EvAt W2 wr.heap.size ⟨id,item,kind,qty,price,ofI,day⟩):=hE2
    clear hW1 hW2 hE1 hE2 hS2 hst
    rw [hVs] at hlk HW2 hdo
    go_wp2_with fail
    rw [← HW2.out]
    refine hdo.mono ?_
    rintro r w3 ⟨rfl,sv',S3,T3,F3⟩
    rw [← hVs] at T3 F3
    have hune:∀ j,u3.ownBlock=some j→j < W2.heap.size∧j ≠ wr.heap.size + 1∧(V item).ownBlock ≠ some j:=fun j hj=>by
     have h1:=(HS.out.own.lt j hj).2
     exact ⟨by omega,by omega,fun e=>(HS.out.ge item j e).2.2.1 hj⟩
    have own3:w3.ownsRow wm.heap.size 180 5 u3 ls.length (ls.flatMap linC):=row_same HS2.out.own fun j hj=>T3.block j (hune j hj).1 (hune j hj).2.1 (hune j hj).2.2
    have hmb:w.heap.size + 1 < wr.heap.size:=HS.out.map.lt
    have hVm:(V item).ownBlock ≠ some (w.heap.size + 1):=fun e=>(HS.out.ge item _ e).2.1 rfl
    have hVe:(V item).ownBlock ≠ some wr.heap.size:=fun e=>by have:=hvlt _ _ e;omega
    have e3m:w3.heap[w.heap.size + 1]?=W2.heap[w.heap.size + 1]?:=T3.block _ (by omega) (by omega) hVm
    have e3e:w3.heap[wr.heap.size]?=W2.heap[wr.heap.size]?:=T3.block _ (by omega) (by omega) hVe
    have hs3:=T3.size
    obtain ⟨ad',n',cp',hsv⟩:=S3.lay.slice
    have H3:Hid (StkAt w3 (wr.heap.size + 1) sv' (doE (M item) ⟨id,item,kind,qty,price,ofI,day⟩).1∧Turned W2 w3 (wr.heap.size + 1) (V item)∧Fresh W2 (V item) sv'):=⟨S3,T3,F3⟩
    generalize hS':(doE (M item) ⟨id,item,kind,qty,price,ofI,day⟩).1=s' at H3
    generalize hY:(doE (M item) ⟨id,item,kind,qty,price,ofI,day⟩).2=Y
    rw [hS'] at HSN
    rw [hY] at HLN
    have HY:Hid (Y=Y):=rfl
    obtain ⟨y0,y1,y2,y3,y4⟩:=Y
    have hu1:u3.ownBlock ≠ some (w.heap.size + 1):=HS.out.umb
    have hu2:u3.ownBlock ≠ some wr.heap.size:=fun e=>by have:=(HS.out.own.lt _ e).2;omega
    have hu3:u3.ownBlock ≠ some (wr.heap.size + 1):=fun e=>by have:=(HS.out.own.lt _ e).2;omega
    have HOWN3:Hid (w3.ownsRow wm.heap.size 180 5 u3 ls.length (ls.flatMap linC)):=own3
    clear hS' hY HY hdo hlk own3 S3 T3 F3 q0 q1 q2 q3 q4 q5 q6
    subst hsv
    simp only [linC]
    go_wp2_with (first
     | (at_builtin;refine wpList_append_new _ rfl _ _ 220 rfl wm.heap.size 180 i0 linZ 5 40 Tryz.underlying220 hi hz0 hz1 hz2 rfl (by decide) u3 _ _ rfl (HOWN3.out.alloc _) ⟨w3.heap.size,0,none⟩ 1 1 (linC ⟨y0,y1,y2,y3,y4⟩) rfl rfl ?d1 ?d2 ?d3 ?d4 ?d5 (by omega) ?_)
     | go_in)
    case d1=>exact cells_of_list rfl
    case d2=>exact linC_one _
    case d3=>unfold maxLen;omega
    case d4=>omega
    case d5=>simp;omega
    intro u' w4 hown4 hgr4 hfr4
    obtain ⟨w3a,hw3a⟩:∃ W,W=w3.alloc (.cells #[.int .i64 y0,.int .i64 y1,.int .i64 y2,.int .i64 y3,.bool y4] 180):=⟨_,rfl⟩
    have hgr4':w3a.grownBy w4 u3.ownBlock:=by rw [hw3a];exact hgr4
    have hfr4':Fresh w3a u3 u':=by rw [hw3a];exact hfr4
    have hb3a:Below w3.heap.size w3 w3a:=by rw [hw3a];exact (Below.refl _ _).alloc (Nat.le_refl _) _
    have hs3a:=hb3a.size
    have e4m:w4.heap[w.heap.size + 1]?=W2.heap[w.heap.size + 1]?:=by rw [hgr4'.block _ (by omega) (fun e=>hu1 e.symm),hb3a.block _ (by omega),e3m]
    have e4e:w4.heap[wr.heap.size]?=W2.heap[wr.heap.size]?:=by rw [hgr4'.block _ (by omega) (fun e=>hu2 e.symm),hb3a.block _ (by omega),e3e]
    have e4s:w4.heap[wr.heap.size + 1]?=w3.heap[wr.heap.size + 1]?:=by rw [hgr4'.block _ (by omega) (fun e=>hu3 e.symm),hb3a.block _ (by omega)]
    have m4:w4.ownsMap Tryz.prog 9 heldE (w.heap.size + 1) k D:=map_same HS2.out.map e4m
    have c1:w4.cell? ⟨wr.heap.size,1,none⟩=some (.string item):=(World.cell?_of_block (a:=⟨wr.heap.size,1,none⟩) e4e).trans HE2.out.c1
    have d0:=(World.cell?_of_block (a:=⟨wr.heap.size + 1,0,none⟩) e4s).trans H3.out.1.c0
    have d1:=(World.cell?_of_block (a:=⟨wr.heap.size + 1,1,none⟩) e4s).trans H3.out.1.c1
    obtain ⟨ad5,n5,cp5,hu'⟩:=own_len' hown4
    have HOWN4:Hid (w4.ownsRow wm.heap.size 180 5 u' (ls ++ [(⟨y0,y1,y2,y3,y4⟩:Lin)]).length ((ls ++ [(⟨y0,y1,y2,y3,y4⟩:Lin)]).flatMap linC)):=by
     show World.ownsRow _ _ _ _ _ _ _
     rw [List.length_append,List.flatMap_append]
     simp only [List.flatMap_cons,List.flatMap_nil,List.append_nil,List.length_cons,List.length_nil]
     rw [hsm,hll]
     exact hown4
    have HG4:Hid (w3a.grownBy w4 u3.ownBlock∧Fresh w3a u3 u'∧Below w3.heap.size w3 w3a):=⟨hgr4',hfr4',hb3a⟩
    have HM4:Hid (w4.ownsMap Tryz.prog 9 heldE (w.heap.size + 1) k D):=m4
    have hkm:k < maxLen:=by unfold maxLen;omega
    clear hown4 hgr4 hfr4 hgr4' hfr4' hb3a hw3a m4 e4m e4e e4s e3m e3e
    subst hu'
    go_wp2_with (first
     | (at_mapUpdate;refine wpList_mapUpdate_own _ rfl _ _ _ 265 rfl 9 268 law_strT Tryz.underlying265 heldE (w.heap.size + 1) k D rfl HM4.out hkm _ _ (keyB item) rfl rfl (key_str item (by unfold maxLen;omega)) (.held (stkV (.slice ad' n' cp') s'.price)) [] rfl ?_)
     | go_in)
    intro w5 m5 g5
    have hstep:=HS2.out.step (x:=item) (b2:=wr.heap.size + 1) (s':=s') (y:=⟨y0,y1,y2,y3,y4⟩) (fun z e=>by have:=hvlt _ _ e;omega) (fun e=>by have:=HS.out.evs.lt e;omega) (by omega) (H3.out.2.1.onBelow (HG4.out.2.2.mono hs3)) H3.out.2.2 (H3.out.1.lay.below HG4.out.2.2) HG4.out.1 HOWN4.out HG4.out.2.1 m5 g5
    have HSTEP:Hid _:=hstep
    clear hstep m5 g5
    go_wp2
    go_roundw
    case rel=>
     refine ⟨k + 1,D.put (keyB item) (.held (stkV (.slice ad' n' cp') s'.price)),fun z=>if z=item then .slice ad' n' cp' else V z,by omega,by go_num,?_,?_⟩
     ·rw [HSN.out,HLN.out]
      exact HSTEP.out.1
     ·have hbb:=HSTEP.out.2 (w.heap.size + 1) (by omega) (by omega) (by omega) (Nat.le_refl _)
      exact (HB.out.trans (hb02.mono (by omega))).trans hbb
    case measure=>simp [intOf];omega
  ·have hkl:k=fs.length:=by omega
   subst hkl
   have e2:fs.take fs.length=fs:=List.take_length
   rw [e2] at HS
   clear e2
   obtain ⟨WS,rfl⟩:∃ x,x=wr:=⟨_,rfl⟩
   have hmb:w.heap.size + 1 < WS.heap.size:=HS.out.map.lt
   have hm2:(WS.alloc (.map #[] 0)).ownsMap Tryz.prog 9 heldE WS.heap.size 0 (.map []):=World.ownsMap_made WS Tryz.prog 9 heldE
   go_wp2_with (first
    | (at_range;refine wpList_range_own _ rfl _ 265 rfl 9 268 law_strT Tryz.underlying265 heldE (w.heap.size + 1) fs.length D rfl (HS.out.map.alloc _) ?_)
    | go_in)
   intro wR hrg0 hg0 hs0
   have hsA:(WS.alloc (.map #[] 0)).heap.size=WS.heap.size + 1:=by simp
   have HR0:Hid (wR.ranges Tryz.prog 9 heldE (w.heap.size + 1) (WS.heap.size + 1) fs.length D (Maps.has D) (Maps.size D)):=hrg0
   have HB0:Hid (Below WS.heap.size WS wR):=((Below.refl _ _).alloc (Nat.le_refl _) _).trans ⟨hg0.os,hg0.tape,hg0.output,by have:=hg0.size;omega,fun j hj=>hg0.block j (by omega) (by simp)⟩
   have HM0:Hid (wR.ownsMap Tryz.prog 9 heldE WS.heap.size 0 (.map [])):=map_same hm2 (hg0.block _ (by omega) (by simp))
   have HSZ:Hid (Maps.size D≤fs.length):=HS.out.map.size_le
   have HL0:Hid (Lays (.map []) (Maps.has D) V (goS stk00 fs)):=Lays.start HS.out
   obtain ⟨M,hM⟩:∃ M,M=goS stk00 fs:=⟨_,rfl⟩
   obtain ⟨ls,hls⟩:∃ ls,ls=goL stk00 fs:=⟨_,rfl⟩
   rw [← hM] at HS HL0
   rw [← hls] at HS
   have HMM:Hid (M=goS stk00 fs∧ls=goL stk00 fs):=⟨hM,hls⟩
   have hvlt:∀ z j,(V z).ownBlock=some j→j < WS.heap.size:=fun z j hj=>(HS.out.lay z).lt hj
   clear hrg0 hg0 hm2 hM hls
   go_wp2
   go_loopw [] (fun wr=>∃ (left:Lit→Bool) (cnt n2:Nat) (D2:DataW Value),Hid (wr.ranges Tryz.prog 9 heldE (w.heap.size + 1) (WS.heap.size + 1) fs.length D left cnt)∧Hid (wr.ownsMap Tryz.prog 9 heldE WS.heap.size n2 D2)∧Hid (Lays D2 left V M)∧Hid (n2 + cnt≤20000)∧Hid (Below WS.heap.size WS wr)) (fun wr=>wr.rangeLeft (w.heap.size + 1) (WS.heap.size + 1))
   case atStart=>exact ⟨_,_,0,_,HR0,HM0,HL0,(by have:=HSZ.out;show _≤_;omega),HB0⟩
   case round=>
    obtain ⟨left,cnt,n2,D2,HR,HM2,HL,HC,HBr⟩:=hrel
    go_wp2_with (at_next;refine wpList_next_ranges _ rfl _ rfl 9 law_strT heldE Value.string (fun c:Value=>c) (fun key kl hkey=>by obtain ⟨s,hs⟩:=Maps.keyOf_string_inv Tryz.underlying9 hkey;exact ⟨s,hs⟩) (fun v y _=>⟨v,rfl⟩) (w.heap.size + 1) (WS.heap.size + 1) fs.length D left cnt rfl HR.out ?_ ?_)
    ·intro hc0 hl0
     have c0:wr.cell? ⟨w.heap.size,0,none⟩=some (.slice none 0 0):=(HBr.out.cell (p:=⟨w.heap.size,0,none⟩) (by show w.heap.size < _;omega)).trans ((HB.out.cell (p:=⟨w.heap.size,0,none⟩) (by show w.heap.size < _;omega)).trans HRB.out.1)
     have c1:wr.cell? ⟨w.heap.size,1,none⟩=some (.map none):=(HBr.out.cell (p:=⟨w.heap.size,1,none⟩) (by show w.heap.size < _;omega)).trans ((HB.out.cell (p:=⟨w.heap.size,1,none⟩) (by show w.heap.size < _;omega)).trans HRB.out.2.1)
     have z0:wr.frozen? ⟨w.heap.size,0,none⟩=false:=(HBr.out.frozen (p:=⟨w.heap.size,0,none⟩) (by show w.heap.size < _;omega)).trans ((HB.out.frozen (p:=⟨w.heap.size,0,none⟩) (by show w.heap.size < _;omega)).trans HRB.out.2.2.1)
     have z1:wr.frozen? ⟨w.heap.size,1,none⟩=false:=(HBr.out.frozen (p:=⟨w.heap.size,1,none⟩) (by show w.heap.size < _;omega)).trans ((HB.out.frozen (p:=⟨w.heap.size,1,none⟩) (by show w.heap.size < _;omega)).trans HRB.out.2.2.2)
     obtain ⟨ad5,n5,cp5,hu5⟩:=own_len' HS.out.own
     subst hu5
     have HRES:Hid (ResAt w.heap.size ((wr.setCell ⟨w.heap.size,0,none⟩ (.slice ad5 n5 cp5)).setCell ⟨w.heap.size,1,none⟩ (.map (some WS.heap.size))) (.agg #[.slice ad5 n5 cp5,.map (some WS.heap.size)]) M ls):=by
      refine ⟨.slice ad5 n5 cp5,WS.heap.size,n2,D2,V,rfl,by omega,fun x k hk=>by have:=(HS.out.ge x k hk).1;omega,?_⟩
      have hS:=HBr.out
      have blk:∀ j,j ≠ w.heap.size→((wr.setCell ⟨w.heap.size,0,none⟩ (.slice ad5 n5 cp5)).setCell ⟨w.heap.size,1,none⟩ (.map (some WS.heap.size))).heap[j]?=wr.heap[j]?:=fun j hj=>by
       rw [Below.heap_setCell _ _ _ _ (by show j ≠ w.heap.size;exact hj),Below.heap_setCell _ _ _ _ (by show j ≠ w.heap.size;exact hj)]
      refine ⟨map_same HM2.out (blk _ (by omega)),fun x hx=>HL.out.no x (Or.inl hx),fun x hx=>HL.out.yes x hx (hl0 _),fun x=>((HS.out.lay x).below hS).kept fun k hk=>blk k (by have:=(HS.out.ge x k hk).1;omega),?_⟩
      exact row_same (own_below HS.out.own hS (by omega)) fun k hk=>blk k (by have:=(HS.out.own.lt k hk).1;omega)
     have hBf:Below w.heap.size w ((wr.setCell ⟨w.heap.size,0,none⟩ (.slice ad5 n5 cp5)).setCell ⟨w.heap.size,1,none⟩ (.map (some WS.heap.size))):=
      (hBm.trans (HB.out.mono (by omega))).trans ((HBr.out.mono (by omega)).trans ((box1 _ _ _ _ _ (Nat.le_refl _)).trans (box1 _ _ _ _ _ (Nat.le_refl _))))
     have HBF:Hid _:=hBf
     clear hBf hl0 hc0
     go_wp2
     refine bodyPost_ret (v:=.agg #[.slice ad5 n5 cp5,.map (some WS.heap.size)]) (by simp [results,Tryz.results170,go_sem, *]) rfl ⟨_,rfl,?_,HBF.out⟩
     rw [← HFS.out,← HMM.out.1,← HMM.out.2]
     exact HRES.out
    ·intro x c kl yd yp w2 cnt2 hkey hlk hcv hat hrg2 hlt2 hgr2 hsz2 hen
     obtain ⟨rfl,hxs⟩:=key_str_inv hkey
     have hcx:c = .agg #[V x,.int .i64 (M x).price]:=by
      have h1:=hat (.held stkZ)
      rw [HS.out.at_ x,heldE_inv hcv] at h1
      exact (held_inj h1).symm
     obtain ⟨ad1,n1,cp1,hVs⟩:=(HS.out.lay x).slice
     have hn1:n1=(M x).ys.length:=by have:=HS.out.lay x;rw [hVs] at this;exact this.nilOf
     rw [hVs] at hcx
     subst hcx
     have hB2:Below WS.heap.size WS w2:=HBr.out.grown hgr2 (by have:=HR.out.lt;omega) (fun j hj=>by cases hj;omega)
     have HM2':Hid (w2.ownsMap Tryz.prog 9 heldE WS.heap.size n2 D2):=map_same HM2.out (hgr2.block _ (HM2.out.lt) (by simp))
     have HR2:Hid (w2.ranges Tryz.prog 9 heldE (w.heap.size + 1) (WS.heap.size + 1) fs.length D (fun z=>left z && !z.sameKey (keyB x)) cnt2):=hrg2
     have HC2:Hid (n2 + cnt2 < n2 + cnt∧n2 + cnt≤20000):=⟨by omega,HC.out⟩
     have HLV:Hid (wr.rangeLeft (w.heap.size + 1) (WS.heap.size + 1)=cnt):=HR.out.left_eq
     have hisM:IsMap D2:=(HM2.out.canon law_strT).imp fun es ⟨e,_⟩=>e
     have HHV:Hid (IsMap D2):=hisM
     have hr2:=hrg2.lt
     have hs2:=hB2.size
     clear hrg2 hat hcv hlk hkey hgr2 hisM
     by_cases hys:(M x).ys=[]
     ·have hn0:n1=0:=by rw [hn1,hys];rfl
      clear hn1
      subst hn0
      have HL2:Hid (Lays D2 (fun z=>left z && !z.sameKey (keyB x)) V M):=HL.out.skip x hys
      go_wp2
      go_roundw
      case rel=>exact ⟨_,cnt2,n2,D2,HR2.out.alloc _,HM2'.out.alloc _,HL2,(by have:=HC2.out;show _≤_;omega),hB2.alloc (by omega) _⟩
      case measure=>
       rw [HLV.out,(HR2.out.alloc _).left_eq]
       exact hlt2
     ·have hn0:0 < n1:=by rw [hn1];exact List.length_pos_iff.2 hys
      have hn2:(0:Int) < (n1:Int):=by omega
      have HL2:Hid (Lays (D2.put (keyB x) (.held (.slice ad1 n1 cp1))) (fun z=>left z && !z.sameKey (keyB x)) V M):=by rw [← hVs];exact HL.out.put HHV.out x hys
      have hnm:n2 < maxLen:=by have:=HC2.out;unfold maxLen;omega
      clear hn1
      go_wp2_with (first
       | (at_mapUpdate;refine wpList_mapUpdate_own _ rfl _ _ _ 221 rfl 9 229 law_strT Tryz.underlying221 heldE WS.heap.size n2 D2 rfl (HM2'.out.alloc _) hnm _ _ (keyB x) rfl rfl (key_str x hxs) (.held (.slice ad1 n1 cp1)) [] rfl ?_)
       | go_in)
      intro w3 m3 g3
      have HR3:Hid (w3.ranges Tryz.prog 9 heldE (w.heap.size + 1) (WS.heap.size + 1) fs.length D (fun z=>left z && !z.sameKey (keyB x)) cnt2):=(HR2.out.alloc _).kept g3 (by simp;omega) (by simp)
      have HM3:Hid (w3.ownsMap Tryz.prog 9 heldE WS.heap.size (n2 + 1) (D2.put (keyB x) (.held (.slice ad1 n1 cp1)))):=m3
      have HB3:Hid (Below WS.heap.size WS w3):=(hB2.alloc (by omega) _).grown g3 (by simp;omega) (fun j hj=>by cases hj;omega)
      clear m3 g3
      go_wp2
      go_roundw
      case rel=>exact ⟨_,cnt2,n2 + 1,_,HR3,HM3,HL2,(by have:=HC2.out;show _≤_;omega),HB3⟩
      case measure=>
       rw [HLV.out,HR3.out.left_eq]
       exact hlt2
end Go.Proofs.YtbleojodidbhiaaGreatDoor
