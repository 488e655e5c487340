/-  -/
import Derived.Test.YtdkhohlhdiekmaaGreatDoorBnAd
import Derived.Test.YtdkhohlhdiekmaaGreatDoorRefRun
import Derived.Test.YtdkhohlhdiekmaaGreatDoorBnRd
import Derived.Test.YtdkhohlhdiekmaaGreatDoorBnPm
import Derived.Test.YtdkhohlhdiekmaaGreatDoorBnRb
import Derived.Test.YtdkhohlhdiekmaaGreatDoorBnT
namespace Go.Proofs.YtdkhohlhdiekmaaGreatDoor
open Go.RowKit Go.Maps
def MonR (l:List Ev) (w:World) (r:Ending) (w':World):Prop:=∃ mb n D,r = .returned (.map (some mb))∧FMap w' mb n D (mons l)∧w.heap.size≤mb∧n≤200∧Below w.heap.size w w'
theorem mons_stl {l:List Ev} (h:∀ e ∈ l,Rt e):mons l=monsA [] ((stl l).zip (goL stk00 (stl l))):=by
 unfold mons
 rw [ordd_stl h]
theorem asc_take (l:List Ev) (h:∀ e ∈ l,Rt e) (k:Nat) (hk:k < (stl l).length):Asc (monsA [] (((stl l).zip (goL stk00 (stl l))).take k)) (dK ((stl l)[k]).day:Int):=by
 have hd:∀ e ∈ stl l,0≤e.day:=fun e he=>(h e ((stl_perm l).mem_iff.1 he)).2.1.1
 have hs:(stl l).Pairwise fun x y=>x.day≤y.day:=(stl_sorted _).imp day_le
 have hzp:=zip_pw (stl l) (goL stk00 (stl l)) hs
 have htk:(((stl l).zip (goL stk00 (stl l))).take k).Pairwise fun p q=>p.1.day≤q.1.day:=hzp.sublist (List.take_sublist _ _)
 have hin:∀ p ∈ ((stl l).zip (goL stk00 (stl l))).take k,0≤p.1.day∧p.1.day≤(stl l)[k].day:=fun p hp=>by
  obtain ⟨j,hj,rfl⟩:=List.getElem_of_mem hp
  rw [List.length_take,List.length_zip] at hj
  rw [List.getElem_take,List.getElem_zip]
  refine ⟨hd _ (List.getElem_mem _),?_⟩
  exact List.pairwise_iff_getElem.1 hs j k (by omega) hk (by omega)
 obtain ⟨d',hd',ha⟩:=asc_mons (((stl l).zip (goL stk00 (stl l))).take k) [] 0 (Int.le_refl _) ⟨List.Pairwise.nil,fun m hm=>by cases hm⟩ (fun p hp=>(hin p hp).1) htk
 refine ⟨ha.row,fun m hm=>?_⟩
 have:=ha.bd m hm
 rcases hd' with rfl | ⟨p,hp,rfl⟩
 ·have h0:=dk_mono (Int.le_refl 0) (hd _ (List.getElem_mem hk));omega
 ·have h0:=dk_mono (hin p hp).1 (hin p hp).2;omega
theorem wf_ofR {n:Int} (h0 : -9223372036854775808≤n) (h1:n≤9223372036854775807):(Lit.int .i64 n).wf=true:=by
 simp [Lit.wf,IntKind.min,IntKind.max,IntKind.signed,IntKind.bits]
 omega
theorem rtK_kindR {k q p o:Int} (h:rtK k q p o):k=1∨k=2∨k=3∨k=4:=by
 rcases h with ⟨rfl,_⟩ | ⟨rfl,_⟩ | ⟨rfl,_⟩ | ⟨rfl,_⟩ <;> simp
theorem turned_grown {w w':World} {pb:Nat} {sv:Value} (h:w.grownBy w' (some pb)):Turned w w' pb sv:=⟨h.os,h.tape,h.output,h.size,fun k hk hne _=>h.block k hk (fun e=>hne (by injection e))⟩
theorem below_turned {N:Nat} {w w3 wr:World} {pb:Nat} (hb:Below N w w3) (hN:N≤pb) (hs:N≤w3.heap.size) (ht:Turned w3 wr pb nilS):Below N w wr:=
 ⟨ht.os.trans hb.os,ht.tape.trans hb.tape,ht.output.trans hb.output,Nat.le_trans hb.size ht.size,fun k hk=>(ht.block k (by omega) (by omega) (by simp [nilS,Value.ownBlock])).trans (hb.block k hk)⟩
set_option maxRecDepth 100000 in
set_option maxHeartbeats 8000000 in
theorem rmonths_any (l:List Ev) (ao:Option Addr) (cap:Nat) (w:World) (h:EvsC w ao l) (hw:∀ e ∈ l,EvW e) (hr:∀ e ∈ l,Rt e) (hl:l.length≤200) (hgl:TabG w) :
  Calls Tryz.prog 142 #[.slice ao l.length cap] w (MonR l w):=by
 have hmm:=@run_makeMap Tryz.prog
 obtain ⟨w0,hw0⟩:∃ W,W=w.alloc (.map #[] 0):=⟨_,rfl⟩
 have hm0:FMap w0 w.heap.size 0 (.map []) []:=by rw [hw0];exact fmap_new w
 have hb0:Below w.heap.size w w0:=by rw [hw0];exact (Below.refl _ _).alloc (Nat.le_refl _) _
 have hrn:=refRun_any l ao cap w0 (h.below hb0) hw hl (hgl.below hb0)
 rw [ordd_stl hr] at hrn
 have HH:=hidE h
 have HW0:=hidE hw0
 have HRT:Hid (∀ e ∈ stl l,Rt e):=fun e he=>hr e ((stl_perm l).mem_iff.1 he)
 have HASC:Hid (∀ k (hk:k < (stl l).length),Asc (monsA [] (((stl l).zip (goL stk00 (stl l))).take k)) (dK ((stl l)[k]).day:Int)):=fun k hk=>asc_take l hr k hk
 have HMS:=hidE (mons_stl hr)
 have HSL:=hidE (stl_len l)
 have HGO:=hidE (goL_len stk00 (stl l))
 clear h hw hr hgl hw0
 obtain ⟨fs,hfs⟩:∃ fs,fs=stl l:=⟨_,rfl⟩
 have HFS:=hidE hfs
 rw [← hfs] at hrn HRT HASC HMS HSL HGO
 obtain ⟨ls,hls⟩:∃ x,x=goL stk00 fs:=⟨_,rfl⟩
 rw [← hls] at hrn HASC HMS HGO
 clear hfs hls
 go_enter Tryz.func142,Tryz.ntmps142
 go_wp2_with fail
 rw [← HW0.out]
 refine hrn.mono ?_
 rintro r w1 ⟨rv,rfl,hres,hb1⟩
 obtain ⟨u,mb2,k2,D2,V2,rfl,_,_,hR⟩:=hres
 have hown:=hR.own
 rw [HGO.out,HSL.out] at hown
 obtain ⟨adu,cpu,hu⟩:=own_lenN hown
 subst hu
 have HOWN:=hidE hown
 have hm1:=hm0.below hb1
 have hB1:Below w.heap.size w w1:=hb0.trans (hb1.mono hb0.size)
 clear hrn hR hown
 obtain ⟨w2,hw2⟩:∃ W,W=w1.alloc (.cells #[.slice adu l.length cpu,.map (some mb2)] 264):=⟨_,rfl⟩
 have hb2:Below w1.heap.size w1 w2:=by rw [hw2];exact (Below.refl _ _).alloc (Nat.le_refl _) _
 have hB2:Below w.heap.size w w2:=hB1.trans (hb2.mono hB1.size)
 have hc0:w2.cell? ⟨w1.heap.size,0,none⟩=some (.slice adu l.length cpu):=by rw [hw2];simp
 have hor:=ordered_evs l ao cap w2 (HH.out.below hB2) (by omega)
 have HW2:=hidE hw2
 clear hw2
 go_wp2_with fail
 rw [← HW2.out]
 refine hor.mono ?_
 rintro r w3 ⟨v3,rfl,hown3,hb3⟩
 clear hor
 rw [← HFS.out,HSL.out] at hown3
 obtain ⟨ad3,cp3,hv3⟩:=own_lenN hown3
 subst hv3
 have HEV:=hidE hown3
 have hm3:=(hm1.below hb2).below hb3
 have hc3:=below_cell hb3 hc0
 have HLN:Hid (w3.ownsRow w0.heap.size 267 5 (.slice adu l.length cpu) l.length (ls.flatMap linC)):=own_below (own_below HOWN.out hb2 (Nat.le_refl _)) hb3 (Nat.le_refl _)
 have HB3:Hid (Below w.heap.size w w3):=hB2.trans (hb3.mono hB2.size)
 have hmw:w.heap.size < w0.heap.size:=hm0.lt
 have hs01:=hb1.size
 have hs12:=hb2.size
 have hs23:=hb3.size
 have HM3:=hidE hm3
 have hrb:w1.heap.size < w2.heap.size:=World.block_lt_of_cell? _ _ hc0
 clear hown3 hm0 hm1 hm3 hb0 hb1 hb2 hb3 hB1 hB2 hc0 HOWN HW0 HW2 HH hmm
 have HC3:=hidE hc3
 clear hc3
 go_wp2
 go_loopw [17] (fun i wr=>∃ (k n:Nat) (D:DataW Value),k≤l.length∧i = .int .i64 k∧n≤k∧Hid (FMap wr w.heap.size n D (monsA [] ((fs.zip ls).take k)))∧Hid (Turned w3 wr w.heap.size nilS)) (fun i _=>l.length - (intOf i).toNat)
 case atStart=>exact ⟨0,0,_,Nat.zero_le _,rfl,Nat.le_refl _,HM3,Turned.refl _ _ _⟩
 case round=>
  obtain ⟨k,n,D,hk,rfl,hnk,HM,HT⟩:=hrel
  by_cases hlt:k < l.length
  ·have hf1:=HSL.out
   have hf2:=HGO.out
   have hkf:k < fs.length:=by omega
   have hkl:k < ls.length:=by omega
   clear hf1 hf2
   rcases own_form HEV.out with ⟨_,a2,_⟩ | ⟨g,cp,e1,hg1,hg2,_⟩
   ·omega
   rcases own_form HLN.out with ⟨_,a2,_⟩ | ⟨gl,cpl,e2,hgl1,hgl2,_⟩
   ·omega
   simp only [Value.slice.injEq] at e1 e2
   obtain ⟨rfl,_,rfl⟩:=e1
   obtain ⟨rfl,_,rfl⟩:=e2
   obtain ⟨x,hx⟩:∃ x,x=fs[k]:=⟨_,rfl⟩
   obtain ⟨y,hy⟩:∃ y,y=ls[k]:=⟨_,rfl⟩
   have hxr:=HRT.out x (by rw [hx];exact List.getElem_mem _)
   have HA:=hidE (HASC.out k hkf)
   rw [← hx] at HA
   have HTK:Hid (monsA [] ((fs.zip ls).take (k + 1))=addM (monsA [] ((fs.zip ls).take k)) (dK x.day:Int) (figOf x.kind y)):=by
    show _=_
    rw [List.take_succ_eq_append_getElem (by rw [List.length_zip];omega),monsA_append,List.getElem_zip,hx,hy]
    rfl
   have hbl:wr.heap[g]?=w3.heap[g]?:=HT.out.block g hg2 (by omega) (by simp [nilS,Value.ownBlock])
   have hbl2:wr.heap[gl]?=w3.heap[gl]?:=HT.out.block gl hgl2 (by omega) (by simp [nilS,Value.ownBlock])
   have hbl3:wr.heap[w1.heap.size]?=w3.heap[w1.heap.size]?:=HT.out.block _ (World.block_lt_of_cell? _ _ HC3.out) (by omega) (by simp [nilS,Value.ownBlock])
   have hce:∀ j,j < 7→wr.cell? ⟨g,k * 7 + j,none⟩=(evC x)[j]?:=fun j hj=>by
    rw [World.cell?_of_block (a:=⟨g,k * 7 + j,none⟩) hbl,(own_cell evC_len HEV.out k j hkf hj).1,hx]
   have hcl:∀ j,j < 5→wr.cell? ⟨gl,k * 5 + j,none⟩=(linC y)[j]?:=fun j hj=>by
    rw [World.cell?_of_block (a:=⟨gl,k * 5 + j,none⟩) hbl2,(own_cell linC_len HLN.out k j hkl hj).1,hy]
   have hcr:=(World.cell?_of_block (a:=⟨w1.heap.size,0,none⟩) hbl3).trans HC3.out
   have hwr3:=HT.out.size
   have hn1:w1.heap.size ≠ wr.heap.size:=by omega
   have hn2:gl ≠ wr.heap.size:=by omega
   have hn3:w1.heap.size < wr.heap.size:=by omega
   have hn4:gl < wr.heap.size:=by omega
   clear hx hy hbl hbl2 hbl3 hkf hkl
   obtain ⟨id,item,kind,qty,price,ofI,day⟩:=x
   obtain ⟨y0,y1,y2,y3,y4⟩:=y
   have q0:=hce 0 (by omega)
   have q1:=hce 1 (by omega)
   have q2:=hce 2 (by omega)
   have q3:=hce 3 (by omega)
   have q4:=hce 4 (by omega)
   have q5:=hce 5 (by omega)
   have q6:=hce 6 (by omega)
   have l0:=hcl 0 (by omega)
   have l1:=hcl 1 (by omega)
   have l2:=hcl 2 (by omega)
   have l3:=hcl 3 (by omega)
   have l4:=hcl 4 (by omega)
   simp only [evC,linC,List.getElem?_cons_zero,List.getElem?_cons_succ,Nat.add_zero] at q0 q1 q2 q3 q4 q5 q6 l0 l1 l2 l3 l4
   clear hce hcl
   have hd:=hxr.2.1
   simp only at hd HTK HA
   obtain ⟨W1,hW1⟩:∃ W,W=(wr.alloc (.cells #[.int .i64 id,.string item,.int .i64 kind,.int .i64 qty,.int .i64 price,.int .i64 ofI,.int .i64 day] 78)).alloc (.cells #[.int .i64 y0,.int .i64 y1,.int .i64 y2,.int .i64 y3,.bool y4] 267):=⟨_,rfl⟩
   have hmo:=rmonth_ok day W1 hd.1 hd.2
   have HW1:=hidE hW1
   clear hW1
   go_wp2_with fail
   rw [← HW1.out]
   refine hmo.mono ?_
   rintro r w' ⟨rfl,hw'⟩
   subst w'
   clear hmo q0 q1 q2 q3 q4 q5 q6 l0 l1 l2 l3 l4 hcr
   have d2:W1.cell? ⟨wr.heap.size,2,none⟩=some (.int .i64 kind):=by rw [HW1.out];exact (((Below.refl _ _).alloc (Nat.le_refl _) _).cell (p:=⟨wr.heap.size,2,none⟩) (by simp)).trans (by simp)
   have e1:W1.cell? ⟨wr.heap.size + 1,1,none⟩=some (.int .i64 y1):=by
    have h:(wr.alloc (.cells #[.int .i64 id,.string item,.int .i64 kind,.int .i64 qty,.int .i64 price,.int .i64 ofI,.int .i64 day] 78)).heap.size=wr.heap.size + 1:=by simp
    rw [HW1.out,← h];simp
   have e3:W1.cell? ⟨wr.heap.size + 1,3,none⟩=some (.int .i64 y3):=by
    have h:(wr.alloc (.cells #[.int .i64 id,.string item,.int .i64 kind,.int .i64 qty,.int .i64 price,.int .i64 ofI,.int .i64 day] 78)).heap.size=wr.heap.size + 1:=by simp
    rw [HW1.out,← h];simp
   have e4:W1.cell? ⟨wr.heap.size + 1,4,none⟩=some (.bool y4):=by
    have h:(wr.alloc (.cells #[.int .i64 id,.string item,.int .i64 kind,.int .i64 qty,.int .i64 price,.int .i64 ofI,.int .i64 day] 78)).heap.size=wr.heap.size + 1:=by simp
    rw [HW1.out,← h];simp
   have hz1:W1.heap.size=wr.heap.size + 2:=by rw [HW1.out];simp
   have hbr:Below wr.heap.size wr W1:=by rw [HW1.out];exact ((Below.refl _ _).alloc (Nat.le_refl _) _).alloc (by simp) _
   have HBR:=hidE hbr
   clear hbr HW1
   obtain ⟨N,hN⟩:∃ N,N=dK day:=⟨_,rfl⟩
   have hNle:N≤3285:=by rw [hN];exact dK_le hd.1 hd.2
   rw [← hN] at HTK HA ⊢
   clear hN
   obtain ⟨F,hF⟩:∃ F,F=figOf kind ⟨y0,y1,y2,y3,y4⟩:=⟨_,rfl⟩
   rw [← hF] at HTK
   have HF:=hidE hF
   clear hF
   have hn5:wr.heap.size ≠ W1.heap.size:=by omega
   have hn6:wr.heap.size + 1 ≠ W1.heap.size:=by omega
   have hn7:wr.heap.size < W1.heap.size:=by omega
   have hn8:wr.heap.size + 1 < W1.heap.size:=by omega
   have HZ1:=hidE hz1
   clear hz1 hn1 hn2 hn3 hn4
   obtain ⟨ms,hms⟩:∃ m,m=monsA [] ((fs.zip ls).take k):=⟨_,rfl⟩
   rw [← hms] at HM HA HTK
   clear hms
   have hNw:(Lit.int .i64 (N:Int)).wf=true:=wf_ofR (by omega) (by omega)
   have hkk:=rtK_kindR hxr.2.2
   simp only at hkk
   by_cases k3:kind < 3
   ·have hk12:kind=1∨kind=2:=by omega
    have hFe:F=⟨y1,0,0,0,y3⟩:=by
     have h:=HF.out
     rw [h]
     unfold figOf;rw [if_pos hk12]
    clear HF
    subst hFe
    obtain ⟨W4,hW4⟩:∃ W,W=W1.alloc (.cells #[.int .i64 y1,.int .i64 0,.int .i64 0,.int .i64 0,.int .i64 y3] 38):=⟨_,rfl⟩
    have hb4:Below wr.heap.size wr W4:=by rw [hW4];exact HBR.out.trans (((Below.refl _ _).alloc (Nat.le_refl _) _).mono HBR.out.size)
    have hm4:=HM.out.below hb4
    have hlk:=hm4.look N hNw
    rw [hW4] at hlk
    obtain ⟨mf,hmf⟩:∃ m,m=fAt N ms:=⟨_,rfl⟩
    rw [← hmf] at hlk
    have HMF:=hidE hmf
    clear hmf
    have hadd:=radd_plus mf ⟨y1,0,0,0,y3⟩ W4
    obtain ⟨R,hR⟩:∃ R,R=mf.plus ⟨y1,0,0,0,y3⟩:=⟨_,rfl⟩
    rw [← hR] at hadd
    have HRR:=hidE hR
    obtain ⟨m1,m2,m3,m4,m5⟩:=mf
    obtain ⟨R1,R2,R3,R4,R5⟩:=R
    unfold figV at hlk hadd
    simp only at hlk hadd
    have HW4:=hidE hW4
    have HM4:=hidE hm4
    have HB4:=hidE hb4
    clear hR hW4 hm4 hb4
    go_wp2_with fail
    rw [← HW4.out]
    refine hadd.mono ?_
    rintro r w5 ⟨rfl,hb5⟩
    have HB5:Hid (Below wr.heap.size wr w5):=HB4.out.trans (hb5.mono HB4.out.size)
    have HM5:=hidE (HM4.out.below hb5)
    clear hadd hlk hb5
    go_wp2_with (first
     | (at_mapUpdate;refine wpList_mapUpdate_own _ rfl _ _ _ 223 rfl 3 38 law_intM Tryz.underlying223 heldE w.heap.size n D rfl HM5.out.map (by unfold maxLen;omega) _ _ (.int .i64 (N:Int)) rfl rfl (key_intM N hNw) (.held (figV ⟨R1,R2,R3,R4,R5⟩)) [] rfl ?_)
     | go_in)
    intro w6 hm6 hg6
    have HM6:Hid (FMap w6 w.heap.size (n + 1) (D.put (.int .i64 (N:Int)) (.held (figV ⟨R1,R2,R3,R4,R5⟩))) (monsA [] ((fs.zip ls).take (k + 1)))):=by
     show FMap _ _ _ _ _
     rw [HTK.out]
     have h:=@FMap.put _ w6 _ _ _ _ _ _ ⟨y1,0,0,0,y3⟩ HM5.out HA.out (Int.le_refl _)
     rw [← HMF.out,← HRR.out] at h
     exact h hm6
    have HT6:Hid (Turned w3 w6 w.heap.size nilS):=(turned_below HT.out HB5.out).trans (turned_grown hg6) (Fresh.refl _ _)
    clear hm6 hg6
    go_wp2
    go_roundw
    case rel=>exact ⟨k + 1,n + 1,_,by omega,by go_num,by omega,HM6,HT6⟩
    case measure=>simp [intOf];omega
   ·have hk12:¬ (kind=1∨kind=2):=by omega
    by_cases k4:kind=3
    ·subst k4
     have hFe:F=⟨0,y1,0,0,y3⟩:=by
      have h:=HF.out
      rw [h]
      unfold figOf;rw [if_neg hk12,if_pos rfl]
     clear HF
     subst hFe
     obtain ⟨W4,hW4⟩:∃ W,W=W1.alloc (.cells #[.int .i64 0,.int .i64 y1,.int .i64 0,.int .i64 0,.int .i64 y3] 38):=⟨_,rfl⟩
     have hb4:Below wr.heap.size wr W4:=by rw [hW4];exact HBR.out.trans (((Below.refl _ _).alloc (Nat.le_refl _) _).mono HBR.out.size)
     have hm4:=HM.out.below hb4
     have hlk:=hm4.look N hNw
     rw [hW4] at hlk
     obtain ⟨mf,hmf⟩:∃ m,m=fAt N ms:=⟨_,rfl⟩
     rw [← hmf] at hlk
     have HMF:=hidE hmf
     clear hmf
     have hadd:=radd_plus mf ⟨0,y1,0,0,y3⟩ W4
     obtain ⟨R,hR⟩:∃ R,R=mf.plus ⟨0,y1,0,0,y3⟩:=⟨_,rfl⟩
     rw [← hR] at hadd
     have HRR:=hidE hR
     obtain ⟨m1,m2,m3,m4,m5⟩:=mf
     obtain ⟨R1,R2,R3,R4,R5⟩:=R
     unfold figV at hlk hadd
     simp only at hlk hadd
     have HW4:=hidE hW4
     have HM4:=hidE hm4
     have HB4:=hidE hb4
     clear hR hW4 hm4 hb4
     go_wp2_with fail
     rw [← HW4.out]
     refine hadd.mono ?_
     rintro r w5 ⟨rfl,hb5⟩
     have HB5:Hid (Below wr.heap.size wr w5):=HB4.out.trans (hb5.mono HB4.out.size)
     have HM5:=hidE (HM4.out.below hb5)
     clear hadd hlk hb5
     go_wp2_with (first
      | (at_mapUpdate;refine wpList_mapUpdate_own _ rfl _ _ _ 223 rfl 3 38 law_intM Tryz.underlying223 heldE w.heap.size n D rfl HM5.out.map (by unfold maxLen;omega) _ _ (.int .i64 (N:Int)) rfl rfl (key_intM N hNw) (.held (figV ⟨R1,R2,R3,R4,R5⟩)) [] rfl ?_)
      | go_in)
     intro w6 hm6 hg6
     have HM6:Hid (FMap w6 w.heap.size (n + 1) (D.put (.int .i64 (N:Int)) (.held (figV ⟨R1,R2,R3,R4,R5⟩))) (monsA [] ((fs.zip ls).take (k + 1)))):=by
      show FMap _ _ _ _ _
      rw [HTK.out]
      have h:=@FMap.put _ w6 _ _ _ _ _ _ ⟨0,y1,0,0,y3⟩ HM5.out HA.out (Int.le_refl _)
      rw [← HMF.out,← HRR.out] at h
      exact h hm6
     have HT6:Hid (Turned w3 w6 w.heap.size nilS):=(turned_below HT.out HB5.out).trans (turned_grown hg6) (Fresh.refl _ _)
     clear hm6 hg6
     go_wp2
     go_roundw
     case rel=>exact ⟨k + 1,n + 1,_,by omega,by go_num,by omega,HM6,HT6⟩
     case measure=>simp [intOf];omega
    ·have k4':(kind == 3)=false:=by simpa using k4
     cases y4
     ·have hFe:F=⟨0,0,y1,0,y3⟩:=by
       have h:=HF.out
       rw [h]
       unfold figOf;rw [if_neg hk12,if_neg k4];rfl
      clear HF
      subst hFe
      obtain ⟨W4,hW4⟩:∃ W,W=W1.alloc (.cells #[.int .i64 0,.int .i64 0,.int .i64 y1,.int .i64 0,.int .i64 y3] 38):=⟨_,rfl⟩
      have hb4:Below wr.heap.size wr W4:=by rw [hW4];exact HBR.out.trans (((Below.refl _ _).alloc (Nat.le_refl _) _).mono HBR.out.size)
      have hm4:=HM.out.below hb4
      have hlk:=hm4.look N hNw
      rw [hW4] at hlk
      obtain ⟨mf,hmf⟩:∃ m,m=fAt N ms:=⟨_,rfl⟩
      rw [← hmf] at hlk
      have HMF:=hidE hmf
      clear hmf
      have hadd:=radd_plus mf ⟨0,0,y1,0,y3⟩ W4
      obtain ⟨R,hR⟩:∃ R,R=mf.plus ⟨0,0,y1,0,y3⟩:=⟨_,rfl⟩
      rw [← hR] at hadd
      have HRR:=hidE hR
      obtain ⟨m1,m2,m3,m4,m5⟩:=mf
      obtain ⟨R1,R2,R3,R4,R5⟩:=R
      unfold figV at hlk hadd
      simp only at hlk hadd
      have HW4:=hidE hW4
      have HM4:=hidE hm4
      have HB4:=hidE hb4
      clear hR hW4 hm4 hb4
      go_wp2_with fail
      rw [← HW4.out]
      refine hadd.mono ?_
      rintro r w5 ⟨rfl,hb5⟩
      have HB5:Hid (Below wr.heap.size wr w5):=HB4.out.trans (hb5.mono HB4.out.size)
      have HM5:=hidE (HM4.out.below hb5)
      clear hadd hlk hb5
      go_wp2_with (first
       | (at_mapUpdate;refine wpList_mapUpdate_own _ rfl _ _ _ 223 rfl 3 38 law_intM Tryz.underlying223 heldE w.heap.size n D rfl HM5.out.map (by unfold maxLen;omega) _ _ (.int .i64 (N:Int)) rfl rfl (key_intM N hNw) (.held (figV ⟨R1,R2,R3,R4,R5⟩)) [] rfl ?_)
       | go_in)
      intro w6 hm6 hg6
      have HM6:Hid (FMap w6 w.heap.size (n + 1) (D.put (.int .i64 (N:Int)) (.held (figV ⟨R1,R2,R3,R4,R5⟩))) (monsA [] ((fs.zip ls).take (k + 1)))):=by
       show FMap _ _ _ _ _
       rw [HTK.out]
       have h:=@FMap.put _ w6 _ _ _ _ _ _ ⟨0,0,y1,0,y3⟩ HM5.out HA.out (Int.le_refl _)
       rw [← HMF.out,← HRR.out] at h
       exact h hm6
      have HT6:Hid (Turned w3 w6 w.heap.size nilS):=(turned_below HT.out HB5.out).trans (turned_grown hg6) (Fresh.refl _ _)
      clear hm6 hg6
      go_wp2
      go_roundw
      case rel=>exact ⟨k + 1,n + 1,_,by omega,by go_num,by omega,HM6,HT6⟩
      case measure=>simp [intOf];omega
     ·have hFe:F=⟨0,0,0,y1,y3⟩:=by
       have h:=HF.out
       rw [h]
       unfold figOf;rw [if_neg hk12,if_neg k4];rfl
      clear HF
      subst hFe
      obtain ⟨W4,hW4⟩:∃ W,W=W1.alloc (.cells #[.int .i64 0,.int .i64 0,.int .i64 0,.int .i64 y1,.int .i64 y3] 38):=⟨_,rfl⟩
      have hb4:Below wr.heap.size wr W4:=by rw [hW4];exact HBR.out.trans (((Below.refl _ _).alloc (Nat.le_refl _) _).mono HBR.out.size)
      have hm4:=HM.out.below hb4
      have hlk:=hm4.look N hNw
      rw [hW4] at hlk
      obtain ⟨mf,hmf⟩:∃ m,m=fAt N ms:=⟨_,rfl⟩
      rw [← hmf] at hlk
      have HMF:=hidE hmf
      clear hmf
      have hadd:=radd_plus mf ⟨0,0,0,y1,y3⟩ W4
      obtain ⟨R,hR⟩:∃ R,R=mf.plus ⟨0,0,0,y1,y3⟩:=⟨_,rfl⟩
      rw [← hR] at hadd
      have HRR:=hidE hR
      obtain ⟨m1,m2,m3,m4,m5⟩:=mf
      obtain ⟨R1,R2,R3,R4,R5⟩:=R
      unfold figV at hlk hadd
      simp only at hlk hadd
      have HW4:=hidE hW4
      have HM4:=hidE hm4
      have HB4:=hidE hb4
      clear hR hW4 hm4 hb4
      go_wp2_with fail
      rw [← HW4.out]
      refine hadd.mono ?_
      rintro r w5 ⟨rfl,hb5⟩
      have HB5:Hid (Below wr.heap.size wr w5):=HB4.out.trans (hb5.mono HB4.out.size)
      have HM5:=hidE (HM4.out.below hb5)
      clear hadd hlk hb5
      go_wp2_with (first
       | (at_mapUpdate;refine wpList_mapUpdate_own _ rfl _ _ _ 223 rfl 3 38 law_intM Tryz.underlying223 heldE w.heap.size n D rfl HM5.out.map (by unfold maxLen;omega) _ _ (.int .i64 (N:Int)) rfl rfl (key_intM N hNw) (.held (figV ⟨R1,R2,R3,R4,R5⟩)) [] rfl ?_)
       | go_in)
      intro w6 hm6 hg6
      have HM6:Hid (FMap w6 w.heap.size (n + 1) (D.put (.int .i64 (N:Int)) (.held (figV ⟨R1,R2,R3,R4,R5⟩))) (monsA [] ((fs.zip ls).take (k + 1)))):=by
       show FMap _ _ _ _ _
       rw [HTK.out]
       have h:=@FMap.put _ w6 _ _ _ _ _ _ ⟨0,0,0,y1,y3⟩ HM5.out HA.out (Int.le_refl _)
       rw [← HMF.out,← HRR.out] at h
       exact h hm6
      have HT6:Hid (Turned w3 w6 w.heap.size nilS):=(turned_below HT.out HB5.out).trans (turned_grown hg6) (Fresh.refl _ _)
      clear hm6 hg6
      go_wp2
      go_roundw
      case rel=>exact ⟨k + 1,n + 1,_,by omega,by go_num,by omega,HM6,HT6⟩
      case measure=>simp [intOf];omega
  ·obtain rfl:k=l.length:=by omega
   have HZL:Hid (monsA [] ((fs.zip ls).take l.length)=mons l):=by
    show _=_
    have h1:=HSL.out
    have h2:=HGO.out
    rw [HMS.out,List.take_of_length_le (by rw [List.length_zip];omega)]
   have hwz:=HT.out.size
   go_wp2
   go_ret
   exact ⟨w.heap.size,n,D,rfl,by have h:=HM.out;rw [HZL.out] at h;exact h,Nat.le_refl _,by omega,below_turned HB3.out (Nat.le_refl _) (by omega) HT.out⟩
structure SeenI (D:DataW Value) (left:Lit→Bool) (S:List Int):Prop where
 nd:S.Nodup
 gone:∀ x ∈ S,left (.int .i64 x)=false
 all:∀ x:Int,has D (.int .i64 x)=true→left (.int .i64 x)=true∨x ∈ S
 only:∀ x ∈ S,has D (.int .i64 x)=true
theorem keyI_key (x:Int):WideAt.IsKeyLit (.int .i64 x):=trivial
theorem seenI_zero (D:DataW Value):SeenI D (has D) []:=⟨List.nodup_nil,by simp,fun _ h=>Or.inl h,by simp⟩
theorem SeenI.step {D:DataW Value} {left:Lit→Bool} {S:List Int} (h:SeenI D left S) {x:Int} (hx:left (.int .i64 x)=true) (hd:has D (.int .i64 x)=true):SeenI D (fun z=>left z && !z.sameKey (.int .i64 x)) (S ++ [x]):=by
 have hn:x ∉ S:=fun hm=>by rw [h.gone x hm] at hx;cases hx
 refine ⟨?_,fun y hy=>?_,fun y hy=>?_,fun y hy=>?_⟩
 ·rw [List.nodup_append]
  refine ⟨h.nd,by simp,fun a ha b hb e=>?_⟩
  rw [List.mem_singleton] at hb
  subst hb
  exact hn (e ▸ ha)
 ·rcases List.mem_append.1 hy with hy | hy
  ·simp only [h.gone y hy,Bool.false_and]
  ·rw [List.mem_singleton] at hy
   subst hy
   simp only [WideAt.sameKey_self (keyI_key _),Bool.not_true,Bool.and_false]
 ·rcases h.all y hy with hl | hm
  ·by_cases e:y=x
   ·exact Or.inr (by simp [e])
   ·exact Or.inl (by simp only [hl,sameKey_ne (fun a=>e (by injection a):(Lit.int .i64 y) ≠ Lit.int .i64 x),Bool.not_false,Bool.and_true])
  ·exact Or.inr (by simp [hm])
 ·rcases List.mem_append.1 hy with hy | hy
  ·exact h.only y hy
  ·rw [List.mem_singleton] at hy;subst hy;exact hd
theorem ranges_onI {P:Program} {k:TypeId} {R:Value→Option (DataW Value × List MemPlace)} {w w':World} {b r n cnt:Nat} {D:DataW Value} {left:Lit→Bool} (h:w.ranges P k R b r n D left cnt) (hb:Below w.heap.size w w'):w'.ranges P k R b r n D left cnt:=by
 have hg:w.grownBy w' none:=⟨hb.os,hb.tape,hb.output,hb.size,fun j hj _=>hb.block j hj⟩
 exact h.kept hg (by simp) (by simp)
def seenF (m:Int) (ms:List Mon) (S:List Int):Fig:=upto m fig0 (S.map fun x=>(⟨x,fAt x ms⟩:Mon))
theorem seenF_snoc (m:Int) (ms:List Mon) (S:List Int) (x:Int):seenF m ms (S ++ [x])=if x≤m then (seenF m ms S).plus (fAt x ms) else seenF m ms S:=by
 unfold seenF
 rw [List.map_append,upto_append]
 rfl
theorem seenF_end {W:World} {mb n:Nat} {D:DataW Value} {l:List Ev} (h:FMap W mb n D (mons l)) {left:Lit→Bool} {S:List Int} (hs:SeenI D left S) (hl:∀ kl,left kl=false) (m:Int):seenF m (mons l) S=untl l m:=by
 unfold seenF untl
 refine upto_perm m (perm_of (mons_asc l) hs.nd fun x=>?_) _
 rw [← h.has_ x]
 constructor
 ·exact hs.only x
 ·intro hx
  rcases hs.all x hx with h1 | h1
  ·rw [hl] at h1;cases h1
  ·exact h1
set_option maxRecDepth 100000 in
set_option maxHeartbeats 8000000 in
theorem runtil_any (l:List Ev) (ao:Option Addr) (cap:Nat) (m:Int) (w:World) (h:EvsC w ao l) (hw:∀ e ∈ l,EvW e) (hr:∀ e ∈ l,Rt e) (hl:l.length≤200) (hgl:TabG w) :
  Calls Tryz.prog 99 #[.slice ao l.length cap,.int .i64 m] w fun r w'=>r = .returned (figV (untl l m))∧Below w.heap.size w w':=by
 obtain ⟨W0,hW0⟩:∃ W,W=(w.alloc (.cells #[.int .i64 0,.int .i64 0,.int .i64 0,.int .i64 0,.int .i64 0] 38)).alloc (.cells #[.int .i64 0,.int .i64 0,.int .i64 0,.int .i64 0,.int .i64 0] 38):=⟨_,rfl⟩
 have hb0:Below w.heap.size w W0:=by rw [hW0];exact ((Below.refl _ _).alloc (Nat.le_refl _) _).alloc (by simp) _
 have hs0:W0.heap.size=w.heap.size + 2:=by rw [hW0];simp
 have hR0:FigAt W0 w.heap.size fig0:=by rw [hW0];exact (fig_new w).below ((Below.refl _ _).alloc (Nat.le_refl _) _)
 have hF0:FigAt W0 (w.heap.size + 1) fig0:=by
  rw [hW0]
  have:=fig_new (w.alloc (.cells #[.int .i64 0,.int .i64 0,.int .i64 0,.int .i64 0,.int .i64 0] 38))
  simpa using this
 have hmo:=rmonths_any l ao cap W0 (h.below hb0) hw hr hl (hgl.below hb0)
 have HW0:Hid (W0=_):=hW0
 obtain ⟨U,hU⟩:∃ U,U=untl l m:=⟨_,rfl⟩
 have HU:Hid (U=untl l m):=hU
 rw [← hU]
 clear h hw hr hgl hW0 hU
 obtain ⟨u1,u2,u3,u4,u5⟩:=U
 unfold figV
 simp only
 go_enter Tryz.func99,Tryz.ntmps99
 go_wp2_with fail
 rw [← HW0.out]
 refine hmo.mono ?_
 rintro r w1 ⟨mb,n,D,rfl,hfm,hmb,hn,hb1⟩
 have HFM:=hidE hfm
 have HR1:Hid (FigAt w1 w.heap.size fig0):=hR0.below hb1
 have HF1:Hid (FigAt w1 (w.heap.size + 1) fig0):=hF0.below hb1
 have HB1:Hid (Below w.heap.size w w1):=hb0.trans (hb1.mono hb0.size)
 have hs1:w.heap.size + 2≤w1.heap.size:=by have:=hb1.size;omega
 have hmb2:w.heap.size + 2≤mb:=by omega
 have hmlt:=hfm.lt
 have HS0:=hidE hs0
 clear hmo hfm hb1 HW0 hR0 hF0 hb0 hmb hs0
 go_wp2_with (first
  | (at_range;refine wpList_range_own _ rfl _ 223 rfl 3 38 law_intM Tryz.underlying223 heldE mb n D rfl HFM.out.map ?_)
  | go_in)
 intro wR hrg0 hg0 hsR
 have HR0:Hid (wR.ranges Tryz.prog 3 heldE mb w1.heap.size n D (Maps.has D) (Maps.size D)):=hrg0
 have HTR:Hid (Turned w1 wR (w.heap.size + 1) nilS):=Turned.of_below ⟨hg0.os,hg0.tape,hg0.output,hg0.size,fun j hj=>hg0.block j hj (by simp)⟩
 have HFR:Hid (FigAt wR (w.heap.size + 1) (seenF m (mons l) [])):=HF1.out.same (hg0.block _ (by omega) (by simp))
 clear hrg0 hg0 hsR
 go_wp2
 go_loopw [] (fun wr=>∃ (left:Lit→Bool) (cnt:Nat) (S:List Int),Hid (SeenI D left S)∧Hid (wr.ranges Tryz.prog 3 heldE mb w1.heap.size n D left cnt)∧Hid (FigAt wr (w.heap.size + 1) (seenF m (mons l) S))∧Hid (Turned w1 wr (w.heap.size + 1) nilS)) (fun wr=>wr.rangeLeft mb w1.heap.size)
 case atStart=>exact ⟨_,_,[],seenI_zero D,HR0,HFR,HTR⟩
 case round=>
  obtain ⟨left,cnt,S,HSN,HR,HF,HT⟩:=hrel
  go_wp2_with (at_next;refine wpList_next_ranges _ rfl _ rfl 3 law_intM heldE (Value.int .i64) (fun c:Value=>c) (fun key kl hkey=>by obtain ⟨s,hs,_⟩:=Maps.keyOf_int_inv Tryz.underlying3 hkey;exact ⟨s,hs⟩) (fun v y _=>⟨v,rfl⟩) mb w1.heap.size n D left cnt rfl HR.out ?_ ?_)
  ·intro hcz hlz
   have HE:=hidE (seenF_end HFM.out HSN.out hlz m)
   rw [HE.out,← HU.out] at HF
   clear hcz hlz HE
   have hwz:=HT.out.size
   have hR:=HR1.out.same (HT.out.block w.heap.size (by omega) (by omega) (by simp [nilS,Value.ownBlock]))
   have d0:=hR.c0
   have d1:=hR.c1
   have d2:=hR.c2
   have d3:=hR.c3
   have d4:=hR.c4
   have e0:=hR.z0
   have e1:=hR.z1
   have e2:=hR.z2
   have e3:=hR.z3
   have e4:=hR.z4
   have c0:=HF.out.c0
   have c1:=HF.out.c1
   have c2:=HF.out.c2
   have c3:=HF.out.c3
   have c4:=HF.out.c4
   have HG:=(hR.put ⟨u1,u2,u3,u4,u5⟩)
   have hB1:=HB1.out
   have hBF:Below w.heap.size w (set5 wr w.heap.size ⟨u1,u2,u3,u4,u5⟩):=by
    refine ⟨(set5_oth _ _ _).1.trans (HT.out.os.trans hB1.os),(set5_oth _ _ _).2.1.trans (HT.out.tape.trans hB1.tape),(set5_oth _ _ _).2.2.trans (HT.out.output.trans hB1.output),?_,fun j hj=>?_⟩
    ·rw [set5_size];omega
    ·rw [set5_other _ _ _ (by omega),HT.out.block j (by omega) (by omega) (by simp [nilS,Value.ownBlock])]
     exact hB1.block j hj
   have g0:=HG.c0
   have g1:=HG.c1
   have g2:=HG.c2
   have g3:=HG.c3
   have g4:=HG.c4
   unfold set5 at g0 g1 g2 g3 g4
   simp only [fig0] at d0 d1 d2 d3 d4
   simp only at c0 c1 c2 c3 c4 g0 g1 g2 g3 g4
   have HGG:=hidE (And.intro g0 (And.intro g1 (And.intro g2 (And.intro g3 g4))))
   have HBF:=hidE hBF
   clear g0 g1 g2 g3 g4 HG hR hBF hB1
   go_wp2
   obtain ⟨g0,g1,g2,g3,g4⟩:=HGG.out
   refine bodyPost_ret (v:=.agg #[.int .i64 u1,.int .i64 u2,.int .i64 u3,.int .i64 u4,.int .i64 u5]) (by simp [results,Tryz.results99,go_sem,g0,g1,g2,g3,g4]) rfl ⟨rfl,HBF.out⟩
  ·intro x c kl yd yp w2 cnt2 hkey hlk hcv hat hrg2 hlt2 hgr2 hsz2 hen
   obtain ⟨x',hx',rfl,hxw⟩:=Maps.keyOf_int_inv Tryz.underlying3 hkey
   cases hx'
   have hcx:c=figV (fAt x (mons l)):=by
    have h1:=HFM.out.at_ x
    rw [hat,heldE_inv hcv] at h1
    exact held_inj h1
   have hhas:has D (.int .i64 x)=true:=has_true_of_atKey hat
   have HSN2:=hidE (HSN.out.step hlk hhas)
   have HSF:=hidE (seenF_snoc m (mons l) S x)
   obtain ⟨cf,hcf⟩:∃ f,f=fAt x (mons l):=⟨_,rfl⟩
   rw [← hcf] at hcx HSF
   clear hcf
   obtain ⟨x1,x2,x3,x4,x5⟩:=cf
   unfold figV at hcx
   simp only at hcx
   subst hcx
   have hnb:w.heap.size + 1 ≠ w1.heap.size:=by omega
   have HF2:Hid (FigAt w2 (w.heap.size + 1) (seenF m (mons l) S)):=HF.out.same (hgr2.block _ HF.out.lt (fun e=>hnb (by injection e)))
   have HR2:Hid (w2.ranges Tryz.prog 3 heldE mb w1.heap.size n D (fun z=>left z && !z.sameKey (.int .i64 x)) cnt2):=hrg2
   have hwz:=HT.out.size
   have HT2:Hid (Turned w1 w2 (w.heap.size + 1) nilS):=⟨hgr2.os.trans HT.out.os,hgr2.tape.trans HT.out.tape,hgr2.output.trans HT.out.output,Nat.le_trans HT.out.size hgr2.size,fun j hj hne hno=>(hgr2.block j (by omega) (fun e=>by injection e with e;omega)).trans (HT.out.block j hj hne hno)⟩
   have HLV:Hid (wr.rangeLeft mb w1.heap.size=cnt):=HR.out.left_eq
   obtain ⟨f,hf⟩:∃ f,f=seenF m (mons l) S:=⟨_,rfl⟩
   rw [← hf] at HF2 HSF
   clear hf hrg2 hat hcv hlk hkey hgr2 hhas
   obtain ⟨W3,hW3⟩:∃ W,W=w2.alloc (.cells #[.int .i64 x1,.int .i64 x2,.int .i64 x3,.int .i64 x4,.int .i64 x5] 38):=⟨_,rfl⟩
   have hb3:Below w2.heap.size w2 W3:=by rw [hW3];exact (Below.refl _ _).alloc (Nat.le_refl _) _
   have hF3:=HF2.out.below hb3
   have HT3:=hidE (turned_below HT2.out hb3)
   have HR3:=hidE (ranges_onI HR2.out hb3)
   by_cases hc:x≤m
   ·rw [if_pos hc] at HSF
    have hpl:=radd_plus f ⟨x1,x2,x3,x4,x5⟩ W3
    obtain ⟨R,hR⟩:∃ R,R=f.plus ⟨x1,x2,x3,x4,x5⟩:=⟨_,rfl⟩
    rw [← hR] at hpl HSF
    have c0:=hF3.c0
    have c1:=hF3.c1
    have c2:=hF3.c2
    have c3:=hF3.c3
    have c4:=hF3.c4
    rw [hW3] at c0 c1 c2 c3 c4
    have HF3:=hidE hF3
    obtain ⟨f1,f2,f3,f4,f5⟩:=f
    obtain ⟨R1,R2,R3,R4,R5⟩:=R
    unfold figV at hpl
    simp only at hpl c0 c1 c2 c3 c4
    have HW3:Hid (W3=_):=hW3
    clear hF3 hW3 hR hb3
    go_wp2_with fail
    rw [← HW3.out]
    refine hpl.mono ?_
    rintro r w4 ⟨rfl,hb4⟩
    have hF4:=HF3.out.below hb4
    have d0:=hF4.c0
    have d1:=hF4.c1
    have d2:=hF4.c2
    have d3:=hF4.c3
    have d4:=hF4.c4
    have e0:=hF4.z0
    have e1:=hF4.z1
    have e2:=hF4.z2
    have e3:=hF4.z3
    have e4:=hF4.z4
    simp only at d0 d1 d2 d3 d4
    have HF5:Hid (FigAt (set5 w4 (w.heap.size + 1) ⟨R1,R2,R3,R4,R5⟩) (w.heap.size + 1) ⟨R1,R2,R3,R4,R5⟩):=hF4.put _
    have HT5:Hid (Turned w1 (set5 w4 (w.heap.size + 1) ⟨R1,R2,R3,R4,R5⟩) (w.heap.size + 1) nilS):=(turned_below HT3.out hb4).trans (turned_set5 _ _ _ _) (Fresh.refl _ _)
    have HR5:Hid ((set5 w4 (w.heap.size + 1) ⟨R1,R2,R3,R4,R5⟩).ranges Tryz.prog 3 heldE mb w1.heap.size n D (fun z=>left z && !z.sameKey (.int .i64 x)) cnt2):=by
     refine (ranges_onI HR3.out hb4).kept (row:=some (w.heap.size + 1)) ?_ (by intro e;injection e;omega) (by intro e;injection e;omega)
     exact ⟨(set5_oth _ _ _).1,(set5_oth _ _ _).2.1,(set5_oth _ _ _).2.2,by rw [set5_size];exact Nat.le_refl _,fun j _ hne=>set5_other _ _ _ (fun e=>hne (by rw [e]))⟩
    clear hpl hF4 c0 c1 c2 c3 c4 hb4
    go_wp2
    go_roundw
    case rel=>
     refine ⟨_,cnt2,S ++ [x],HSN2,HR5,?_,HT5⟩
     show FigAt _ _ _
     rw [HSF.out]
     exact HF5.out
    case measure=>
     rw [HLV.out]
     have h:=HR5.out.left_eq
     unfold set5 at h
     rw [h]
     exact hlt2
   ·rw [if_neg hc] at HSF
    have HF3:Hid (FigAt W3 (w.heap.size + 1) (seenF m (mons l) (S ++ [x]))):=by rw [HSF.out];exact hF3
    rw [hW3] at HF3 HT3 HR3
    clear hF3 hW3 hb3
    go_wp2
    go_roundw
    case rel=>exact ⟨_,cnt2,S ++ [x],HSN2,HR3,HF3,HT3⟩
    case measure=>
     rw [HLV.out,HR3.out.left_eq]
     exact hlt2
end Go.Proofs.YtdkhohlhdiekmaaGreatDoor
namespace Go.Proofs.YtdkhohlhdiekmaaGreatDoor
open Go.RowKit Go.Maps
structure RPerAt (w:World) (B pq:Nat) (cv:Value) (cs:List Cl) (T:Fig):Prop where
 c0:w.cell? ⟨pq,3,none⟩=some cv
 c1:w.cell? ⟨pq,4,none⟩=some (.int .i64 T.inn)
 c2:w.cell? ⟨pq,5,none⟩=some (.int .i64 T.out)
 c3:w.cell? ⟨pq,6,none⟩=some (.int .i64 T.loss)
 c4:w.cell? ⟨pq,7,none⟩=some (.int .i64 T.gain)
 c5:w.cell? ⟨pq,8,none⟩=some (.int .i64 T.late)
 fz:∀ k,w.frozen? ⟨pq,k,none⟩=false
 own:w.ownsRow B 167 7 cv cs.length (cs.flatMap clC)
 ne:cv.ownBlock ≠ some pq
 ge:B≤pq
section
variable {w w':World} {B pq pb:Nat} {cv sv:Value} {cs:List Cl} {T:Fig}
theorem RPerAt.lt (h:RPerAt w B pq cv cs T):pq < w.heap.size:=World.block_lt_of_cell? _ _ h.c0
theorem RPerAt.same (h:RPerAt w B pq cv cs T) (e:w'.heap[pq]?=w.heap[pq]?) (eo:∀ k,cv.ownBlock=some k→w'.heap[k]?=w.heap[k]?):RPerAt w' B pq cv cs T:=
 ⟨(World.cell?_of_block (a:=⟨pq,3,none⟩) e).trans h.c0,(World.cell?_of_block (a:=⟨pq,4,none⟩) e).trans h.c1,(World.cell?_of_block (a:=⟨pq,5,none⟩) e).trans h.c2,(World.cell?_of_block (a:=⟨pq,6,none⟩) e).trans h.c3,(World.cell?_of_block (a:=⟨pq,7,none⟩) e).trans h.c4,(World.cell?_of_block (a:=⟨pq,8,none⟩) e).trans h.c5,fun k=>(World.frozen?_of_block (a:=⟨pq,k,none⟩) e).trans (h.fz k),row_same h.own eo,h.ne,h.ge⟩
theorem RPerAt.below (h:RPerAt w B pq cv cs T) (hb:Below w.heap.size w w'):RPerAt w' B pq cv cs T:=h.same (hb.block _ h.lt) fun k hk=>hb.block k (h.own.lt k hk).2
end
def lastM (cs:List Cl):Int:=match cs.getLast? with
 | none=>-1
 | some c=>c.month
theorem lastM_snoc {cs:List Cl} {k:Nat} (hk:k < cs.length):lastM (cs.take (k + 1))=cs[k].month:=by
 have e:(cs.take (k + 1)).getLast?=some cs[k]:=by rw [List.take_succ_eq_append_getElem hk,List.getLast?_concat]
 unfold lastM
 rw [e]
theorem cov_last (cs:List Cl) (m:Int) (h:0≤m):cov cs m=decide (m≤lastM cs):=by
 unfold cov lastM
 cases cs.getLast? with
 | none=>
  have:¬ m ≤ -1:=by omega
  simp [this]
 | some c=>rfl
set_option maxRecDepth 20000 in
set_option maxHeartbeats 4000000 in
theorem rlastP_any {w:World} {B pq:Nat} {cv:Value} {cs:List Cl} {T:Fig} (h:RPerAt w B pq cv cs T) (hl:cs.length≤1000) :
  Calls Tryz.prog 89 #[.pointer (some ⟨pq,3,none⟩)] w fun r w'=>r = .returned (.int .i64 (lastM cs))∧Below w.heap.size w w':=by
 have hc0:=h.c0
 have HO:=hidE h.own
 obtain ⟨ad,cap,hcv⟩:=own_lenN h.own
 subst hcv
 clear h
 go_enter Tryz.func89,Tryz.ntmps89
 go_wp2
 go_loopw [3,11] (fun mv i wr=>∃ k:Nat,k≤cs.length∧i = .int .i64 k∧mv = .int .i64 (lastM (cs.take k))∧Hid (Below w.heap.size w wr)) (fun _ i _=>cs.length - (intOf i).toNat)
 case atStart=>exact ⟨0,Nat.zero_le _,rfl,by simp [lastM],Below.refl _ _⟩
 case round=>
  obtain ⟨k,hk,rfl,rfl,HB⟩:=hrel
  by_cases hlt:k < cs.length
  ·rcases own_form HO.out with ⟨_,a2,_⟩ | ⟨g,cp,e1,hg1,hg2,_⟩
   ·omega
   simp only [Value.slice.injEq] at e1
   obtain ⟨rfl,_,rfl⟩:=e1
   have HTK:=hidE (lastM_snoc hlt)
   have hcw:∀ j,j < 7→wr.cell? ⟨g,k * 7 + j,none⟩=(clC cs[k])[j]?:=fun j hj=>by
    rw [HB.out.cell (p:=⟨g,k * 7 + j,none⟩) hg2,(own_cell clC_len HO.out k j hlt hj).1]
   generalize cs[k]=x at hcw HTK
   obtain ⟨mo,tu,f1,f2,f3,f4,f5⟩:=x
   have q0:=hcw 0 (by omega)
   have q1:=hcw 1 (by omega)
   have q2:=hcw 2 (by omega)
   have q3:=hcw 3 (by omega)
   have q4:=hcw 4 (by omega)
   have q5:=hcw 5 (by omega)
   have q6:=hcw 6 (by omega)
   simp only [clC,figC,List.getElem?_cons_zero,List.getElem?_cons_succ,Nat.add_zero] at q0 q1 q2 q3 q4 q5 q6
   clear hcw
   simp only at HTK
   have HB2:Hid (Below w.heap.size w (wr.alloc (.cells #[.int .i64 mo,.int .i64 tu,.int .i64 f1,.int .i64 f2,.int .i64 f3,.int .i64 f4,.int .i64 f5] 167))):=HB.out.alloc HB.out.size _
   go_wp2
   go_roundw
   case rel=>exact ⟨k + 1,by omega,by go_num,by rw [HTK.out],HB2⟩
   case measure=>simp [intOf];omega
  ·obtain rfl:k=cs.length:=by omega
   rw [List.take_length]
   go_wp2
   go_ret
   exact ⟨rfl,HB.out⟩
end Go.Proofs.YtdkhohlhdiekmaaGreatDoor
namespace Go.Proofs.YtdkhohlhdiekmaaGreatDoor
open Go.RowKit Go.Maps
def setT (w:World) (b:Nat) (f:Fig):World:=((((w.setCell ⟨b,4,none⟩ (.int .i64 f.inn)).setCell ⟨b,5,none⟩ (.int .i64 f.out)).setCell ⟨b,6,none⟩ (.int .i64 f.loss)).setCell ⟨b,7,none⟩ (.int .i64 f.gain)).setCell ⟨b,8,none⟩ (.int .i64 f.late)
theorem setT_other (w:World) (b:Nat) (f:Fig) {k:Nat} (h:k ≠ b):(setT w b f).heap[k]?=w.heap[k]?:=by
 unfold setT
 rw [Below.heap_setCell _ _ _ _ h,Below.heap_setCell _ _ _ _ h,Below.heap_setCell _ _ _ _ h,Below.heap_setCell _ _ _ _ h,Below.heap_setCell _ _ _ _ h]
theorem setT_size (w:World) (b:Nat) (f:Fig):(setT w b f).heap.size=w.heap.size:=by
 unfold setT;simp [World.setCell]
theorem setT_oth (w:World) (b:Nat) (f:Fig):(setT w b f).os=w.os∧(setT w b f).tape=w.tape∧(setT w b f).output=w.output:=by
 unfold setT
 simp only [sc_os,sc_tape,sc_out,and_self]
section
variable {w w':World} {B pq pb:Nat} {cv sv v6:Value} {cs:List Cl} {T:Fig} {c:Cl}
theorem RPerAt.told (h:RPerAt w B pq cv cs T) (U:Fig):RPerAt (setT w pq U) B pq cv cs U:=by
 have ho:∀ k,cv.ownBlock=some k→(setT w pq U).heap[k]?=w.heap[k]?:=fun k hk=>setT_other w pq U (fun e=>h.ne (by rw [hk,e]))
 refine ⟨?_,?_,?_,?_,?_,?_,fun k=>?_,row_same h.own ho,h.ne,h.ge⟩
 ·unfold setT
  rw [set_other (ad_ne (by decide)),set_other (ad_ne (by decide)),set_other (ad_ne (by decide)),set_other (ad_ne (by decide)),set_other (ad_ne (by decide))];exact h.c0
 ·unfold setT
  rw [set_other (ad_ne (by decide)),set_other (ad_ne (by decide)),set_other (ad_ne (by decide)),set_other (ad_ne (by decide))];exact set_same h.c1
 ·unfold setT
  rw [set_other (ad_ne (by decide)),set_other (ad_ne (by decide)),set_other (ad_ne (by decide))];exact set_same ((set_other (ad_ne (by decide))).trans h.c2)
 ·unfold setT
  rw [set_other (ad_ne (by decide)),set_other (ad_ne (by decide))];exact set_same ((set_other (ad_ne (by decide))).trans ((set_other (ad_ne (by decide))).trans h.c3))
 ·unfold setT
  rw [set_other (ad_ne (by decide))];exact set_same ((set_other (ad_ne (by decide))).trans ((set_other (ad_ne (by decide))).trans ((set_other (ad_ne (by decide))).trans h.c4)))
 ·unfold setT
  exact set_same ((set_other (ad_ne (by decide))).trans ((set_other (ad_ne (by decide))).trans ((set_other (ad_ne (by decide))).trans ((set_other (ad_ne (by decide))).trans h.c5))))
 ·unfold setT
  rw [set_frz,set_frz,set_frz,set_frz,set_frz];exact h.fz k
theorem RPerAt.more {W5 w6:World} (h:RPerAt w B pq cv cs T) (hb5:Below w.heap.size w W5) (hown:w6.ownsRow B 167 7 v6 (cs.length + 1) (cs.flatMap clC ++ clC c)) (hgr:W5.grownBy w6 cv.ownBlock) (hfr:Fresh W5 cv v6) :
  (w6.cell? ⟨pq,3,none⟩=some cv∧w6.frozen? ⟨pq,3,none⟩=false)∧RPerAt (w6.setCell ⟨pq,3,none⟩ v6) B pq v6 (cs ++ [c]) T∧TurnI 3 9 w (w6.setCell ⟨pq,3,none⟩ v6) pq cv∧Fresh w cv v6
   ∧ (∀ k,w.heap.size≤k→k < W5.heap.size→(w6.setCell ⟨pq,3,none⟩ v6).heap[k]?=W5.heap[k]?)∧(∀ k,w.heap.size≤k→k < W5.heap.size→v6.ownBlock ≠ some k)∧W5.heap.size≤(w6.setCell ⟨pq,3,none⟩ v6).heap.size:=by
 have hpl:=h.lt
 have hcl:∀ g,cv.ownBlock=some g→g < w.heap.size:=fun g hg=>(h.own.lt g hg).2
 have hP5:=h.below hb5
 have e6:w6.heap[pq]?=W5.heap[pq]?:=hgr.block pq hP5.lt (fun e=>h.ne e.symm)
 have h6:∀ j x,W5.cell? ⟨pq,j,none⟩=some x→w6.cell? ⟨pq,j,none⟩=some x:=fun j x hx=>(World.cell?_of_block (a:=⟨pq,j,none⟩) e6).trans hx
 have z6:∀ j,w6.frozen? ⟨pq,j,none⟩=false:=fun j=>(World.frozen?_of_block (a:=⟨pq,j,none⟩) e6).trans (hP5.fz j)
 have k0:=h6 3 _ hP5.c0
 have hs5:=hb5.size
 have hfw:Fresh w cv v6:=fun k hk=>by
  rcases hfr k hk with x | x
  ·exact Or.inl x
  ·exact Or.inr (by omega)
 have hv1:v6.ownBlock ≠ some pq:=fun e=>by
  rcases hfr pq e with x | x
  ·exact h.ne x
  ·omega
 have esz:(w6.setCell ⟨pq,3,none⟩ v6).heap.size=w6.heap.size:=by simp [World.setCell]
 refine ⟨⟨k0,z6 3⟩,?_,?_,hfw,fun k hk hk5=>?_,fun k hk hk5 e=>?_,by rw [esz];exact hgr.size⟩
 ·refine ⟨set_same k0,(set_other (ad_ne (by decide))).trans (h6 4 _ hP5.c1),(set_other (ad_ne (by decide))).trans (h6 5 _ hP5.c2),(set_other (ad_ne (by decide))).trans (h6 6 _ hP5.c3),(set_other (ad_ne (by decide))).trans (h6 7 _ hP5.c4),(set_other (ad_ne (by decide))).trans (h6 8 _ hP5.c5),fun k=>set_frz.trans (z6 k),?_,hv1,h.ge⟩
  rw [List.length_append,List.flatMap_append]
  simp only [List.flatMap_cons,List.flatMap_nil,List.append_nil,List.length_cons,List.length_nil,Nat.zero_add]
  exact row_same hown fun k hk=>Below.heap_setCell _ _ _ _ (by show k ≠ pq;exact fun e=>hv1 (e ▸ hk))
 ·have eb:w6.heap[pq]?=w.heap[pq]?:=e6.trans (hb5.block pq hpl)
  refine ⟨⟨?_,?_,?_,?_,fun k hk h2 h3=>?_⟩,fun _ _ o ho=>?_,fun _ _ o=>?_⟩
  rotate_left 5
  ·rw [set_other (by intro e;injection e with _ e2;omega),World.cell?_of_block (a:=⟨pq,o,none⟩) eb]
  ·rw [set_frz,World.frozen?_of_block (a:=⟨pq,o,none⟩) eb]
  ·rw [sc_os];exact hgr.os.trans hb5.os
  ·rw [sc_tape];exact hgr.tape.trans hb5.tape
  ·rw [sc_out];exact hgr.output.trans hb5.output
  ·rw [esz];exact Nat.le_trans hb5.size hgr.size
  ·rw [Below.heap_setCell _ _ _ _ (by show k ≠ pq;exact h2),hgr.block k (by omega) (fun e=>h3 e.symm)]
   exact hb5.block k hk
 ·rw [Below.heap_setCell _ _ _ _ (by show k ≠ pq;omega)]
  exact hgr.block k hk5 (fun e=>by have:=hcl k e.symm;omega)
 ·rcases hfr k e with x | x
  ·have:=hcl k x;omega
  ·omega
theorem turned_setT {a:World} (h:TurnI 3 9 a w pq cv) (U:Fig):TurnI 3 9 a (setT w pq U) pq cv:=
 ⟨⟨(setT_oth _ _ _).1.trans h.os,(setT_oth _ _ _).2.1.trans h.tape,(setT_oth _ _ _).2.2.trans h.output,by rw [setT_size];exact h.size,fun k hk hne hno=>(setT_other _ _ _ hne).trans (h.block k hk hne hno)⟩,
  fun hl hn o ho=>by
   have n (k:Nat) (hk:3≤k∧k < 9):(⟨pq,k,none⟩:Addr) ≠ ⟨pq,o,none⟩:=fun e=>by injection e with _ e2;omega
   unfold setT
   rw [set_other (n _ (by decide)),set_other (n _ (by decide)),set_other (n _ (by decide)),set_other (n _ (by decide)),set_other (n _ (by decide))]
   exact h.rest hl hn o ho,
  fun hl hn o=>by
   unfold setT
   rw [set_frz,set_frz,set_frz,set_frz,set_frz]
   exact h.frz hl hn o⟩
theorem turned_set5n {a:World} {g:Nat} (h:TurnI 3 9 a w pq cv) (hg:a.heap.size≤g) (F:Fig):TurnI 3 9 a (set5 w g F) pq cv:=
 ⟨⟨(set5_oth _ _ _).1.trans h.os,(set5_oth _ _ _).2.1.trans h.tape,(set5_oth _ _ _).2.2.trans h.output,by rw [set5_size];exact h.size,fun k hk hne hno=>(set5_other _ _ _ (by omega)).trans (h.block k hk hne hno)⟩,
  fun hl hn o ho=>(World.cell?_of_block (a:=⟨pq,o,none⟩) (set5_other _ _ _ (by show pq ≠ g;omega))).trans (h.rest hl hn o ho),fun hl hn o=>(World.frozen?_of_block (a:=⟨pq,o,none⟩) (set5_other _ _ _ (by show pq ≠ g;omega))).trans (h.frz hl hn o)⟩
theorem RPerAt.set5 {g:Nat} (h:RPerAt w B pq cv cs T) (h1:pq ≠ g) (h2:cv.ownBlock ≠ some g) (F:Fig):RPerAt (Go.Proofs.YtdkhohlhdiekmaaGreatDoor.set5 w g F) B pq cv cs T:=
 h.same (set5_other _ _ _ h1) fun k hk=>set5_other _ _ _ (fun e=>h2 (by rw [hk,e]))
end
end Go.Proofs.YtdkhohlhdiekmaaGreatDoor
namespace Go.Proofs.YtdkhohlhdiekmaaGreatDoor
open Go.RowKit Go.Maps
theorem now_small {b:Bk} (h:Inv b):(srt (asOf b b.n)).length≤200∧b.vs.length≤1000000:=by
 have h2:=h.full
 refine ⟨?_,by omega⟩
 rw [srt_len]
 unfold asOf
 rw [List.length_map]
 have h1:=List.length_filter_le (isAt b.n) b.vs
 omega
theorem now_rt {b:Bk} (h:Inv b):∀ e ∈ srt (asOf b b.n),Rt e:=fun e he=>by
 have hm:e ∈ asOf b b.n:=(srt_perm _).mem_iff.1 he
 unfold asOf at hm
 rw [List.mem_map] at hm
 obtain ⟨v,hv,rfl⟩:=hm
 exact h.rt v (List.mem_filter.1 hv).1
theorem rnow_any {B pb:Nat} {sv:Value} {b:Bk} {w:World} (h:RAt w B pb sv b) (hi:Inv b) (t:Int) (ht:t=b.n∨t < 0) :
  Calls Tryz.prog 14 #[.pointer (some ⟨pb,0,none⟩),.int .i64 t] w fun r w'=>∃ v,r = .returned v∧w'.ownsRow w.heap.size 78 7 v (srt (asOf b b.n)).length ((srt (asOf b b.n)).flatMap evC)∧Below w.heap.size w w':=by
 refine (ras_any h (now_small hi).2 t).mono ?_
 rintro r w' ⟨v,l,hr,hown,hp,hs,hb⟩
 have e:tR b t=b.n:=by
  unfold tR
  have:=hi.n0
  rcases ht with rfl | ht
  ·rw [if_pos ⟨this,Int.le_refl _⟩]
  ·rw [if_neg (by omega)]
 rw [e] at hp
 have hl:l=srt (asOf b b.n):=sorted_one (hp.trans (srt_perm _).symm) hs (srt_sorted _) (((hp.trans (srt_perm _).symm).map _).symm.nodup (now_ok hi).1)
 subst hl
 exact ⟨v,hr,hown,hb⟩
theorem evsC_of {w:World} {B:Nat} {l:List Ev} {ao:Option Addr} {n cap:Nat} (h:w.ownsRow B 78 7 (.slice ao n cap) l.length (l.flatMap evC)):EvsC w ao l:=by
 obtain ⟨ao',cap',e,hc⟩:=(EvsAt.of_own h).toC
 simp only [Value.slice.injEq] at e
 obtain ⟨rfl,_,_⟩:=e
 exact hc
def RDoes (b:Bk) (cs:List Cl) (T:Fig) (m c:Int) (F:Fig) (cs':List Cl) (T':Fig):Prop:=
 ((m < 0∨3299 < m)∧c=1∧F=fig0∧cs'=cs∧T'=T)∨((0≤m∧m≤3299)∧cov cs m=true∧c=10∧F=fig0∧cs'=cs∧T'=T)
 ∨ ((0≤m∧m≤3299)∧cov cs m=false∧60≤cs.length∧c=12∧F=fig0∧cs'=cs∧T'=T)
 ∨ ((0≤m∧m≤3299)∧cov cs m=false∧cs.length < 60∧c=0∧F=(untl (srt (asOf b b.n)) m).minus T∧cs'=cs ++ [⟨m,b.n,F⟩]∧T'=untl (srt (asOf b b.n)) m)
def RCloseP (w:World) (B pq:Nat) (cv:Value) (b:Bk) (cs:List Cl) (T:Fig) (m:Int) (r:Ending) (w':World):Prop:=
 ∃ F c cs' cv' T',r = .returned (.tuple #[figV F,.int .i64 c])∧RDoes b cs T m c F cs' T'∧RPerAt w' B pq cv' cs' T'∧TurnI 3 9 w w' pq cv∧Fresh w cv cv'
theorem rcl_info:(Tryz.prog.info? 167).map (fun i=>(i.zero,i.size,i.bytes))=some (some clZ,7,56):=by kernel_rfl
set_option maxRecDepth 100000 in
set_option maxHeartbeats 3000000 in
theorem rclose_any {w:World} {B pq Bb pb:Nat} {cv sv:Value} {cs:List Cl} {T:Fig} {b:Bk} (hp:RPerAt w B pq cv cs T) (hbk:RAt w Bb pb sv b) (hi:Inv b) (ht:TabG w) (hl:cs.length≤1000) (m:Int) :
  Calls Tryz.prog 56 #[.pointer (some ⟨pq,3,none⟩),.pointer (some ⟨pb,0,none⟩),.int .i64 m] w (RCloseP w B pq cv b cs T m):=by
 obtain ⟨i0,hi0,hz0,hz1,hz2⟩:=info_parts rcl_info
 obtain ⟨W0,hW0⟩:∃ W,W=w.alloc (.cells #[.int .i64 0,.int .i64 0,.int .i64 0,.int .i64 0,.int .i64 0] 38):=⟨_,rfl⟩
 have hb0:Below w.heap.size w W0:=by rw [hW0];exact (Below.refl _ _).alloc (Nat.le_refl _) _
 have hR0:FigAt W0 w.heap.size fig0:=by rw [hW0];exact fig_new w
 have HB0:=hidE hb0
 have HW0:=hidE hW0
 have HPQ:=hidE hp
 have HBK:=hidE hbk
 have HI:=hidE hi
 have HTG:=hidE ht
 have HRF:=hidE hR0
 have HOUT:Hid (∀ (W:World) (c:Int),Below W0.heap.size W0 W→(∃ cs',RDoes b cs T m c fig0 cs' T∧cs'=cs)→RCloseP w B pq cv b cs T m (.returned (.tuple #[figV fig0,.int .i64 c])) (set5 W w.heap.size fig0)∧FigAt (set5 W w.heap.size fig0) w.heap.size fig0):=fun W c hW ⟨cs',hd,hcs⟩=>by
  subst hcs
  have hBW:Below w.heap.size w W:=hb0.trans (hW.mono hb0.size)
  have hBS:Below w.heap.size w (set5 W w.heap.size fig0):=by
   refine ⟨(set5_oth _ _ _).1.trans hBW.os,(set5_oth _ _ _).2.1.trans hBW.tape,(set5_oth _ _ _).2.2.trans hBW.output,?_,fun j hj=>?_⟩
   ·rw [set5_size];exact hBW.size
   ·rw [set5_other _ _ _ (by omega)];exact hBW.block j hj
  exact ⟨⟨fig0,c,cs',cv,T,rfl,hd,hp.below hBS,TurnI.of_below hBS,Fresh.refl _ _⟩,(hR0.below hW).put fig0⟩
 have d0:=hR0.c0
 have d1:=hR0.c1
 have d2:=hR0.c2
 have d3:=hR0.c3
 have d4:=hR0.c4
 have e0:=hR0.z0
 have e1:=hR0.z1
 have e2:=hR0.z2
 have e3:=hR0.z3
 have e4:=hR0.z4
 simp only [fig0] at d0 d1 d2 d3 d4
 clear hp hbk hi ht hb0 hW0 hR0
 by_cases hm:0≤m∧m≤3299
 rotate_left
 ·have hin:=in_no m 0 3299 W0 (by omega)
  have HX:=hidE (HOUT.out W0 1 (Below.refl _ _) ⟨cs,.inl ⟨by omega,rfl,rfl,rfl,rfl⟩,rfl⟩)
  go_enter Tryz.func56,Tryz.ntmps56
  go_wp2_with fail
  rw [← HW0.out]
  refine hin.mono ?_
  rintro r w' ⟨rfl,hw'⟩
  subst w'
  clear hin
  go_wp2
  have g0:=HX.out.2.c0
  have g1:=HX.out.2.c1
  have g2:=HX.out.2.c2
  have g3:=HX.out.2.c3
  have g4:=HX.out.2.c4
  unfold set5 at g0 g1 g2 g3 g4
  simp only [fig0] at g0 g1 g2 g3 g4
  exact bodyPost_ret (v:=.tuple #[.agg #[.int .i64 0,.int .i64 0,.int .i64 0,.int .i64 0,.int .i64 0],.int .i64 1]) (by simp [results,Tryz.results56,go_sem,g0,g1,g2,g3,g4]) rfl HX.out.1
 ·have hin:=in_yes m 0 3299 W0 hm.1 hm.2
  have hla:=rlastP_any (HPQ.out.below HB0.out) hl
  have HCV:=hidE (cov_last cs m hm.1)
  clear d0 d1 d2 d3 d4 e0 e1 e2 e3 e4
  go_enter Tryz.func56,Tryz.ntmps56
  go_wp2_with fail
  rw [← HW0.out]
  refine hin.mono ?_
  rintro r w' ⟨rfl,hw'⟩
  subst w'
  clear hin
  go_wp2_with fail
  refine hla.mono ?_
  rintro r W1 ⟨rfl,hb1⟩
  clear hla
  have hRx:=HRF.out.below hb1
  have HB1:=hidE hb1
  by_cases hcv:m≤lastM cs
  ·have HX:=hidE (HOUT.out W1 10 hb1 ⟨cs,.inr (.inl ⟨hm,by rw [HCV.out];exact decide_eq_true hcv,rfl,rfl,rfl,rfl⟩),rfl⟩)
   have d0:=hRx.c0
   have d1:=hRx.c1
   have d2:=hRx.c2
   have d3:=hRx.c3
   have d4:=hRx.c4
   have e0:=hRx.z0
   have e1:=hRx.z1
   have e2:=hRx.z2
   have e3:=hRx.z3
   have e4:=hRx.z4
   simp only [fig0] at d0 d1 d2 d3 d4
   clear hRx hb1
   go_wp2
   have g0:=HX.out.2.c0
   have g1:=HX.out.2.c1
   have g2:=HX.out.2.c2
   have g3:=HX.out.2.c3
   have g4:=HX.out.2.c4
   unfold set5 at g0 g1 g2 g3 g4
   simp only [fig0] at g0 g1 g2 g3 g4
   exact bodyPost_ret (v:=.tuple #[.agg #[.int .i64 0,.int .i64 0,.int .i64 0,.int .i64 0,.int .i64 0],.int .i64 10]) (by simp [results,Tryz.results56,go_sem,g0,g1,g2,g3,g4]) rfl HX.out.1
  have HNC:Hid (cov cs m=false):=by rw [HCV.out];exact decide_eq_false hcv
  have hpq1:=(HPQ.out.below HB0.out).below hb1
  have pc0:=hpq1.c0
  obtain ⟨ad,cap,hcvv⟩:=own_lenN hpq1.own
  subst hcvv
  by_cases hfull:60≤cs.length
  ·have hfz:(60:Int)≤(cs.length:Int):=by omega
   have HX:=hidE (HOUT.out W1 12 hb1 ⟨cs,.inr (.inr (.inl ⟨hm,HNC.out,hfull,rfl,rfl,rfl,rfl⟩)),rfl⟩)
   have d0:=hRx.c0
   have d1:=hRx.c1
   have d2:=hRx.c2
   have d3:=hRx.c3
   have d4:=hRx.c4
   have e0:=hRx.z0
   have e1:=hRx.z1
   have e2:=hRx.z2
   have e3:=hRx.z3
   have e4:=hRx.z4
   simp only [fig0] at d0 d1 d2 d3 d4
   clear hRx hb1 hpq1
   go_wp2
   have g0:=HX.out.2.c0
   have g1:=HX.out.2.c1
   have g2:=HX.out.2.c2
   have g3:=HX.out.2.c3
   have g4:=HX.out.2.c4
   unfold set5 at g0 g1 g2 g3 g4
   simp only [fig0] at g0 g1 g2 g3 g4
   exact bodyPost_ret (v:=.tuple #[.agg #[.int .i64 0,.int .i64 0,.int .i64 0,.int .i64 0,.int .i64 0],.int .i64 12]) (by simp [results,Tryz.results56,go_sem,g0,g1,g2,g3,g4]) rfl HX.out.1
  have hfz:¬ (60:Int)≤(cs.length:Int):=by omega
  have hB1:Below w.heap.size w W1:=HB0.out.trans (hb1.mono HB0.out.size)
  have hbk1:=HBK.out.below hB1
  have bn:=hbk1.c1
  have hrn:=rnow_any hbk1 HI.out b.n (.inl rfl)
  have HB1w:=hidE hB1
  have HPQ1:=hidE hpq1
  have HBK1:=hidE hbk1
  clear hRx hb1 hpq1 hbk1 hB1
  go_wp2_with fail
  refine hrn.mono ?_
  rintro r W2 ⟨v2,rfl,hown2,hb2⟩
  clear hrn
  obtain ⟨es,hes⟩:∃ l,l=srt (asOf b b.n):=⟨_,rfl⟩
  have HES:=hidE hes
  rw [← hes] at hown2
  obtain ⟨ad2,cp2,hv2⟩:=own_lenN hown2
  subst hv2
  have hB2:Below w.heap.size w W2:=HB1w.out.trans (hb2.mono HB1w.out.size)
  have hun:=runtil_any es ad2 cp2 m W2 (evsC_of hown2) (by rw [hes];exact (now_ok HI.out).2.1) (by rw [hes];exact now_rt HI.out) (by rw [hes];exact (now_small HI.out).1) (HTG.out.below hB2)
  have HPQ2:=hidE (HPQ1.out.below hb2)
  have HBK2:=hidE (HBK1.out.below hb2)
  have HB2:=hidE hB2
  have HR2:=hidE (HRF.out.below (HB1.out.trans (hb2.mono HB1.out.size)))
  have pc2:=HPQ2.out.c0
  have bn2:=HBK2.out.c1
  clear hes hown2 hb2 hB2 pc0 bn
  go_wp2_with fail
  refine hun.mono ?_
  rintro r W3 ⟨rfl,hb3⟩
  clear hun
  obtain ⟨U,hU⟩:∃ U,U=untl es m:=⟨_,rfl⟩
  rw [← hU]
  have HU:Hid (U=untl (srt (asOf b b.n)) m):=by rw [← HES.out];exact hU
  clear hU
  have hpq3:=HPQ2.out.below hb3
  have hbk3:=HBK2.out.below hb3
  have hB3:Below w.heap.size w W3:=HB2.out.trans (hb3.mono HB2.out.size)
  have hR3:=HR2.out.below hb3
  obtain ⟨F,hF⟩:∃ F,F=U.minus T:=⟨_,rfl⟩
  have HF:=hidE hF
  obtain ⟨u1,u2,u3,u4,u5⟩:=U
  obtain ⟨W4,hW4⟩:∃ W,W=W3.alloc (.cells #[.int .i64 u1,.int .i64 u2,.int .i64 u3,.int .i64 u4,.int .i64 u5] 38):=⟨_,rfl⟩
  have hb4:Below W3.heap.size W3 W4:=by rw [hW4];exact (Below.refl _ _).alloc (Nat.le_refl _) _
  have hRM:=fun V:World=>radd_minus ⟨u1,u2,u3,u4,u5⟩ T V
  rw [← hF] at hRM
  have hpq4:=hpq3.below hb4
  have t1:=hpq4.c1
  have t2:=hpq4.c2
  have t3:=hpq4.c3
  have t4:=hpq4.c4
  have t5:=hpq4.c5
  have n0:W4.cell? ⟨W3.heap.size,0,none⟩=some (.int .i64 u1):=by rw [hW4];simp
  have n1:W4.cell? ⟨W3.heap.size,1,none⟩=some (.int .i64 u2):=by rw [hW4];simp
  have n2:W4.cell? ⟨W3.heap.size,2,none⟩=some (.int .i64 u3):=by rw [hW4];simp
  have n3:W4.cell? ⟨W3.heap.size,3,none⟩=some (.int .i64 u4):=by rw [hW4];simp
  have n4:W4.cell? ⟨W3.heap.size,4,none⟩=some (.int .i64 u5):=by rw [hW4];simp
  rw [hW4] at t1 t2 t3 t4 t5
  obtain ⟨t1',t2',t3',t4',t5'⟩:=T
  obtain ⟨F1,F2,F3,F4,F5⟩:=F
  unfold figV at hRM ⊢
  simp only at hRM t1 t2 t3 t4 t5 ⊢
  have HW4:=hidE hW4
  have HPQ4:=hidE hpq4
  have HBK4:=hidE (hbk3.below hb4)
  have HB4:Hid (Below w.heap.size w W4):=hB3.trans (hb4.mono hB3.size)
  have HR4:=hidE (hR3.below hb4)
  have HN4:=hidE (And.intro n0 (And.intro n1 (And.intro n2 (And.intro n3 n4))))
  have h3:w.heap.size < W3.heap.size:=hR3.lt
  have h34:W3.heap.size < W4.heap.size:=World.block_lt_of_cell? _ _ n0
  have hpqlt:pq < W3.heap.size:=hpq3.lt
  clear hpq3 hbk3 hB3 hR3 hb4 hpq4 n0 n1 n2 n3 n4 hW4 hF hb3 pc2 bn2
  go_wp2_with fail
  rw [← HW4.out]
  rw [← HW4.out] at t1 t2 t3 t4 t5
  refine wp_region_preG (Below W4.heap.size) [(true,0),(false,1),(false,2),(false,3),(true,4)] [7] 3 (fun w=>Below.refl _ _) (fun a b c h1 h2=>h1.trans h2) (by kernel_rfl) (by kernel_rfl) ?_
  have hU:∀ w:World,Nonempty (UpK (Below W4.heap.size) w):=fun w=>⟨⟨w,Below.refl _ _⟩⟩
  have hA:=anyW_ne
  obtain ⟨Wd,hWd⟩:∃ W,W=W4.drew:=⟨_,rfl⟩
  rw [← hWd]
  have hbd:Below W4.heap.size W4 Wd:=by rw [hWd];exact below_drew _
  obtain ⟨n0,n1,n2,n3,n4⟩:=HN4.out
  have y0:=fun q:UpK (Below W4.heap.size) Wd=>below_cell (hbd.trans q.h) n0
  have y1:=fun q:UpK (Below W4.heap.size) Wd=>below_cell (hbd.trans q.h) n1
  have y2:=fun q:UpK (Below W4.heap.size) Wd=>below_cell (hbd.trans q.h) n2
  have y3:=fun q:UpK (Below W4.heap.size) Wd=>below_cell (hbd.trans q.h) n3
  have y4:=fun q:UpK (Below W4.heap.size) Wd=>below_cell (hbd.trans q.h) n4
  have y5:=fun q:UpK (Below W4.heap.size) Wd=>below_cell (hbd.trans q.h) t1
  have y6:=fun q:UpK (Below W4.heap.size) Wd=>below_cell (hbd.trans q.h) t2
  have y7:=fun q:UpK (Below W4.heap.size) Wd=>below_cell (hbd.trans q.h) t3
  have y8:=fun q:UpK (Below W4.heap.size) Wd=>below_cell (hbd.trans q.h) t4
  have y9:=fun q:UpK (Below W4.heap.size) Wd=>below_cell (hbd.trans q.h) t5
  have hsd:=hbd.size
  clear hWd n0 n1 n2 n3 n4 t1 t2 t3 t4 t5
  repeat (first | refine preG_p rfl ?_ | refine preG_q rfl ?_);go_big_quiet_step (fail);refine wpQuiet_nil ?_
  refine preG_nil ?_
  clear y0 y1 y2 y3 y4 y5 y6 y7 y8 y9
  refine anyG_all [5,6] (by kernel_rfl) ?_
  intro i hi2
  have hi3:i=5∨i=6:=by simpa using hi2
  clear hi2
  rcases hi3 with rfl | rfl
  ·have hrm:=hRM Wd
   refine eOpG_keep rfl ?_
   go_wp2_with fail
   refine hrm.mono ?_
   rintro r W5 ⟨rfl,hb5'⟩
   clear hrm
   go_wp2_with fail
   refine ⟨rfl,hb5'.mono hsd,?_⟩
   have hb5:Below W4.heap.size W4 W5:=hbd.trans (hb5'.mono hbd.size)
   clear hbd hb5'
   refine anyG_all [6] (by kernel_rfl) ?_
   intro i hi2
   obtain rfl:i=6:=by simpa using hi2
   clear hi2
   refine eOpG_keep rfl ?_
   go_wp2_with fail
   refine ⟨rfl,(Below.refl _ _).alloc hb5.size _,?_⟩
   refine anyG_all [7] (by kernel_rfl) ?_
   intro i hi2
   obtain rfl:i=7:=by simpa using hi2
   clear hi2
   refine eOpG_turn rfl (by decide) ?_
   go_wp2_with fail
   refine ⟨rfl,?_⟩
   refine anyG_nil (by kernel_rfl) ?_
   obtain ⟨W6,hW6⟩:∃ W,W=W5.alloc (.cells #[.int .i64 F1,.int .i64 F2,.int .i64 F3,.int .i64 F4,.int .i64 F5] 38):=⟨_,rfl⟩
   rw [← hW6]
   have hb6:Below W4.heap.size W4 W6:=by rw [hW6];exact hb5.alloc hb5.size _
   have hfb:W4.heap.size≤W5.heap.size:=hb5.size
   have hFG:FigAt W6 W5.heap.size ⟨F1,F2,F3,F4,F5⟩:=by rw [hW6];constructor <;> simp
   obtain ⟨fb,hfbe⟩:∃ n,n=W5.heap.size:=⟨_,rfl⟩
   rw [← hfbe] at hfb hFG
   rw [← hfbe]
   clear hW6 hb5 hfbe
   have hpq6:=HPQ4.out.below hb6
   have hbk6:=HBK4.out.below hb6
   have hB6:Below w.heap.size w W6:=HB4.out.trans (hb6.mono HB4.out.size)
   have hR6:=HR4.out.below hb6
   obtain ⟨n0,n1,n2,n3,n4⟩:=HN4.out
   have HN6:Hid (W6.cell? ⟨W3.heap.size,0,none⟩=some (.int .i64 u1)∧W6.cell? ⟨W3.heap.size,1,none⟩=some (.int .i64 u2)∧W6.cell? ⟨W3.heap.size,2,none⟩=some (.int .i64 u3)∧W6.cell? ⟨W3.heap.size,3,none⟩=some (.int .i64 u4)∧W6.cell? ⟨W3.heap.size,4,none⟩=some (.int .i64 u5)):=⟨below_cell hb6 n0,below_cell hb6 n1,below_cell hb6 n2,below_cell hb6 n3,below_cell hb6 n4⟩
   have HFG:=hidE hFG
   have HR6:=hidE hR6
   have HB6:=hidE hB6
   have pc6:=hpq6.c0
   have bn6:=hbk6.c1
   have x0:=hFG.c0
   have x1:=hFG.c1
   have x2:=hFG.c2
   have x3:=hFG.c3
   have x4:=hFG.c4
   have h46:=hb6.size
   simp only at x0 x1 x2 x3 x4
   have HPQ6:=hidE hpq6
   clear n0 n1 n2 n3 n4 hFG hR6 hB6 hpq6 hbk6 hb6 hU hA hRM
   go_wp2_with fail
   refine wp_region_turn [(.pure,0),(.pure,1),(.pure,2),(.pure,3),(.read,4),(.pure,5),(.pure,6),(.pure,7),(.pure,8),(.read,9),(.read,10),(.pure,11),(.make,12),(.turn,13),(.pure,14),(.pure,15),(.turn,16)] (by kernel_rfl) (by kernel_rfl) ?_
   have hU:=up_ne
   have hA:=anyW_ne
   obtain ⟨Wz,hWz⟩:∃ W,W=W6.drew:=⟨_,rfl⟩
   rw [← hWz]
   have hbz:Below W6.heap.size W6 Wz:=by rw [hWz];exact below_drew _
   have y0:=fun n:Up Wz=>n.cell (below_cell hbz pc6)
   have y1:=fun n:Up Wz=>n.cell (below_cell hbz bn6)
   have y2:=fun n:Up Wz=>n.cell (below_cell hbz x0)
   have y3:=fun n:Up Wz=>n.cell (below_cell hbz x1)
   have y4:=fun n:Up Wz=>n.cell (below_cell hbz x2)
   have y5:=fun n:Up Wz=>n.cell (below_cell hbz x3)
   have y6:=fun n:Up Wz=>n.cell (below_cell hbz x4)
   have hPz:=HPQ6.out.below hbz
   have hszz:=hbz.size
   clear hWz pc6 bn6 x0 x1 x2 x3 x4
   repeat (first | refine turn_p rfl ?_ | refine turn_q rfl ?_);go_big_quiet_step (fail);refine wpQuiet_nil ?_
   refine turn_n rfl ?_
   clear y0 y1 y2 y3 y4 y5 y6
   go_wp2_with fail
   refine ⟨rfl,(Below.refl _ _).alloc (Nat.le_refl _) _,?_⟩
   refine turn_t rfl ?_
   refine wpList_append_new _ rfl _ _ 36 rfl B 167 i0 clZ 7 56 Tryz.underlying36 hi0 hz0 hz1 hz2 rfl (by decide) (.slice ad cs.length cap) _ _ rfl (hPz.own.alloc _) ⟨Wz.heap.size,0,none⟩ 1 1 (clC ⟨m,b.n,⟨F1,F2,F3,F4,F5⟩⟩) rfl rfl ?d1 ?d2 ?d3 ?d4 ?d5 (by decide) ?_
   case d1=>exact cells_of_list rfl
   case d2=>exact clC_one _
   case d3=>unfold maxLen;omega
   case d4=>omega
   case d5=>have:=hPz.ge;have:=hPz.lt;simp;omega
   intro v6 w6 hown6 hgr6 hfr6
   obtain ⟨Wy,hWy⟩:∃ W,W=Wz.alloc (.cells (clC ⟨m,b.n,⟨F1,F2,F3,F4,F5⟩⟩).toArray 167):=⟨_,rfl⟩
   have hby:Below Wz.heap.size Wz Wy:=by rw [hWy];exact (Below.refl _ _).alloc (Nat.le_refl _) _
   have hgr:Wy.grownBy w6 (Value.slice ad cs.length cap).ownBlock:=by rw [hWy];exact hgr6
   have hfr:Fresh Wy (.slice ad cs.length cap) v6:=by rw [hWy];exact hfr6
   have hB6:=HB6.out
   have hbzy:Below W6.heap.size W6 Wy:=hbz.trans (hby.mono hbz.size)
   have hBy:Below w.heap.size w Wy:=hB6.trans (hbzy.mono hB6.size)
   obtain ⟨⟨k0,z0⟩,hP8,hT8,hfw,hblk,hvn,hsz8⟩:=RPerAt.more HPQ.out hBy hown6 hgr hfr
   have hs6y:=hbzy.size
   obtain ⟨ad6,cap6,hv6⟩:∃ ad6 cap6,v6 = .slice ad6 (cs.length + 1) cap6:=by
    obtain ⟨a,c,e⟩:=own_lenN hP8.own
    rw [List.length_append] at e
    exact ⟨a,c,e⟩
   subst hv6
   obtain ⟨W9,hW9⟩:∃ W,W=w6.setCell ⟨pq,3,none⟩ (.slice ad6 (cs.length + 1) cap6):=⟨_,rfl⟩
   rw [← hW9] at hP8 hT8 hblk hsz8
   have cell9:∀ (k j:Nat) (x:Value),w.heap.size≤k→W6.cell? ⟨k,j,none⟩=some x→W9.cell? ⟨k,j,none⟩=some x:=fun k j x hk hx=>by
    have hlt:k < W6.heap.size:=World.block_lt_of_cell? _ _ hx
    exact (World.cell?_of_block (a:=⟨k,j,none⟩) (hblk k hk (by omega))).trans (below_cell hbzy hx)
   have hR9:FigAt W9 w.heap.size fig0:=HR6.out.same ((hblk _ (Nat.le_refl _) (by have:=HR6.out.lt;omega)).trans (hbzy.block _ HR6.out.lt))
   have hG9:FigAt W9 fb ⟨F1,F2,F3,F4,F5⟩:=HFG.out.same ((hblk _ (by omega) (by have:=HFG.out.lt;omega)).trans (hbzy.block _ HFG.out.lt))
   obtain ⟨n0,n1,n2,n3,n4⟩:=HN6.out
   have HN9:=hidE (And.intro (cell9 _ _ _ (by omega) n0) (And.intro (cell9 _ _ _ (by omega) n1) (And.intro (cell9 _ _ _ (by omega) n2) (And.intro (cell9 _ _ _ (by omega) n3) (cell9 _ _ _ (by omega) n4)))))
   have hne1:pq ≠ w.heap.size:=by have:=HPQ.out.lt;omega
   have hP10:=hP8.told ⟨u1,u2,u3,u4,u5⟩
   have hR10:FigAt (setT W9 pq ⟨u1,u2,u3,u4,u5⟩) w.heap.size fig0:=hR9.same (setT_other _ _ _ (fun e=>hne1 e.symm))
   have hG10:FigAt (setT W9 pq ⟨u1,u2,u3,u4,u5⟩) fb ⟨F1,F2,F3,F4,F5⟩:=hG9.same (setT_other _ _ _ (by have:=HPQ.out.lt;omega))
   have hvw:(Value.slice ad6 (cs.length + 1) cap6).ownBlock ≠ some w.heap.size:=hvn _ (Nat.le_refl _) (by have:=HR6.out.lt;omega)
   have HFIN:Hid (RCloseP w B pq (.slice ad cs.length cap) b cs ⟨t1',t2',t3',t4',t5'⟩ m (.returned (.tuple #[figV ⟨F1,F2,F3,F4,F5⟩,.int .i64 0])) (set5 (setT W9 pq ⟨u1,u2,u3,u4,u5⟩) w.heap.size ⟨F1,F2,F3,F4,F5⟩)):=by
    refine ⟨⟨F1,F2,F3,F4,F5⟩,0,cs ++ [⟨m,b.n,⟨F1,F2,F3,F4,F5⟩⟩],_,⟨u1,u2,u3,u4,u5⟩,rfl,.inr (.inr (.inr ⟨hm,HNC.out,by omega,rfl,?_,rfl,HU.out⟩)),hP10.set5 hne1 hvw _,turned_set5n (turned_setT hT8 _) (Nat.le_refl _) _,hfw⟩
    rw [HF.out,HU.out]
   have HG11:=hidE (hR10.put ⟨F1,F2,F3,F4,F5⟩)
   have HW9:=hidE hW9
   have HP8:=hidE hP8
   have HR10:=hidE hR10
   have HG10:=hidE hG10
   clear hgr6 hfr6 hgr hfr hWy hown6 hP8 hT8 hfw hblk hvn hby hbz hbzy hBy cell9 n0 n1 n2 n3 n4 hR9 hG9 hP10 hR10 hG10 hB6 hPz hW9
   go_wp2_with fail
   refine ⟨rfl,?_⟩
   repeat (first | refine turn_p rfl ?_ | refine turn_q rfl ?_);go_big_quiet_step (fail);refine wpQuiet_nil ?_
   refine turn_t rfl ?_
   go_wp2_with fail
   refine ⟨rfl,?_⟩
   refine turn_nil ?_
   rw [← HW9.out]
   clear k0 z0
   obtain ⟨n0,n1,n2,n3,n4⟩:=HN9.out
   have p1:=HP8.out.c1
   have p2:=HP8.out.c2
   have p3:=HP8.out.c3
   have p4:=HP8.out.c4
   have p5:=HP8.out.c5
   have q1:=HP8.out.fz 4
   have q2:=HP8.out.fz 5
   have q3:=HP8.out.fz 6
   have q4:=HP8.out.fz 7
   have q5:=HP8.out.fz 8
   simp only at p1 p2 p3 p4 p5
   have f0:=HG10.out.c0
   have f1:=HG10.out.c1
   have f2:=HG10.out.c2
   have f3:=HG10.out.c3
   have f4:=HG10.out.c4
   have d0:=HR10.out.c0
   have d1:=HR10.out.c1
   have d2:=HR10.out.c2
   have d3:=HR10.out.c3
   have d4:=HR10.out.c4
   have e0:=HR10.out.z0
   have e1:=HR10.out.z1
   have e2:=HR10.out.z2
   have e3:=HR10.out.z3
   have e4:=HR10.out.z4
   unfold setT at f0 f1 f2 f3 f4 d0 d1 d2 d3 d4 e0 e1 e2 e3 e4
   simp only [fig0] at f0 f1 f2 f3 f4 d0 d1 d2 d3 d4 e0 e1 e2 e3 e4
   go_wp2
   have g0:=HG11.out.c0
   have g1:=HG11.out.c1
   have g2:=HG11.out.c2
   have g3:=HG11.out.c3
   have g4:=HG11.out.c4
   unfold set5 setT at g0 g1 g2 g3 g4
   simp only at g0 g1 g2 g3 g4
   exact bodyPost_ret (v:=.tuple #[.agg #[.int .i64 F1,.int .i64 F2,.int .i64 F3,.int .i64 F4,.int .i64 F5],.int .i64 0]) (by simp [results,Tryz.results56,go_sem,g0,g1,g2,g3,g4]) rfl HFIN.out
  ·refine eOpG_keep rfl ?_
   go_wp2_with fail
   obtain ⟨Wf,hWf⟩:∃ W,W=Wd.alloc (.cells #[.int .i64 0,.int .i64 0,.int .i64 0,.int .i64 0,.int .i64 0] 38):=⟨_,rfl⟩
   have hbf:Below Wd.heap.size Wd Wf:=by rw [hWf];exact (Below.refl _ _).alloc (Nat.le_refl _) _
   have hFf:FigAt Wf Wd.heap.size fig0:=by rw [hWf];exact fig_new Wd
   refine ⟨rfl,by rw [← hWf];exact hbf.mono hsd,?_⟩
   rw [← hWf]
   clear hWf
   have hrm:=hRM Wf
   refine anyG_all [5] (by kernel_rfl) ?_
   intro i hi2
   obtain rfl:i=5:=by simpa using hi2
   clear hi2
   refine eOpG_keep rfl ?_
   go_wp2_with fail
   refine hrm.mono ?_
   rintro r W5 ⟨rfl,hb5'⟩
   clear hrm
   go_wp2_with fail
   have hbdf:Below W4.heap.size W4 Wf:=hbd.trans (hbf.mono hsd)
   refine ⟨rfl,hb5'.mono hbdf.size,?_⟩
   have hb5:Below W4.heap.size W4 W5:=hbdf.trans (hb5'.mono hbdf.size)
   have hF5:=hFf.below hb5'
   have d0:=hF5.c0
   have d1:=hF5.c1
   have d2:=hF5.c2
   have d3:=hF5.c3
   have d4:=hF5.c4
   have e0:=hF5.z0
   have e1:=hF5.z1
   have e2:=hF5.z2
   have e3:=hF5.z3
   have e4:=hF5.z4
   simp only [fig0] at d0 d1 d2 d3 d4
   have HF5:=hidE hF5
   clear hbd hb5' hF5 hFf hbf hbdf
   refine anyG_all [7] (by kernel_rfl) ?_
   intro i hi2
   obtain rfl:i=7:=by simpa using hi2
   clear hi2
   refine eOpG_turn rfl (by decide) ?_
   go_wp2_with fail
   refine ⟨rfl,?_⟩
   refine anyG_nil (by kernel_rfl) ?_
   clear d0 d1 d2 d3 d4 e0 e1 e2 e3 e4
   obtain ⟨W6,hW6⟩:∃ W,W=set5 W5 Wd.heap.size ⟨F1,F2,F3,F4,F5⟩:=⟨_,rfl⟩
   have hW6':=hW6
   unfold set5 at hW6'
   simp only at hW6'
   rw [← hW6']
   have hb6:Below W4.heap.size W4 W6:=by
    rw [hW6]
    refine ⟨(set5_oth _ _ _).1.trans hb5.os,(set5_oth _ _ _).2.1.trans hb5.tape,(set5_oth _ _ _).2.2.trans hb5.output,by rw [set5_size];exact hb5.size,fun j hj=>?_⟩
    rw [set5_other _ _ _ (by omega)];exact hb5.block j hj
   have hFG:FigAt W6 Wd.heap.size ⟨F1,F2,F3,F4,F5⟩:=by rw [hW6];exact HF5.out.put _
   have hfb:W4.heap.size≤Wd.heap.size:=hsd
   obtain ⟨fb,hfbe⟩:∃ n,n=Wd.heap.size:=⟨_,rfl⟩
   rw [← hfbe] at hfb hFG
   rw [← hfbe]
   clear hW6 hW6' hb5 hfbe HF5 hsd
   have hpq6:=HPQ4.out.below hb6
   have hbk6:=HBK4.out.below hb6
   have hB6:Below w.heap.size w W6:=HB4.out.trans (hb6.mono HB4.out.size)
   have hR6:=HR4.out.below hb6
   obtain ⟨n0,n1,n2,n3,n4⟩:=HN4.out
   have HN6:Hid (W6.cell? ⟨W3.heap.size,0,none⟩=some (.int .i64 u1)∧W6.cell? ⟨W3.heap.size,1,none⟩=some (.int .i64 u2)∧W6.cell? ⟨W3.heap.size,2,none⟩=some (.int .i64 u3)∧W6.cell? ⟨W3.heap.size,3,none⟩=some (.int .i64 u4)∧W6.cell? ⟨W3.heap.size,4,none⟩=some (.int .i64 u5)):=⟨below_cell hb6 n0,below_cell hb6 n1,below_cell hb6 n2,below_cell hb6 n3,below_cell hb6 n4⟩
   have HFG:=hidE hFG
   have HR6:=hidE hR6
   have HB6:=hidE hB6
   have pc6:=hpq6.c0
   have bn6:=hbk6.c1
   have x0:=hFG.c0
   have x1:=hFG.c1
   have x2:=hFG.c2
   have x3:=hFG.c3
   have x4:=hFG.c4
   have h46:=hb6.size
   simp only at x0 x1 x2 x3 x4
   have HPQ6:=hidE hpq6
   clear n0 n1 n2 n3 n4 hFG hR6 hB6 hpq6 hbk6 hb6 hU hA hRM
   go_wp2_with fail
   refine wp_region_turn [(.pure,0),(.pure,1),(.pure,2),(.pure,3),(.read,4),(.pure,5),(.pure,6),(.pure,7),(.pure,8),(.read,9),(.read,10),(.pure,11),(.make,12),(.turn,13),(.pure,14),(.pure,15),(.turn,16)] (by kernel_rfl) (by kernel_rfl) ?_
   have hU:=up_ne
   have hA:=anyW_ne
   obtain ⟨Wz,hWz⟩:∃ W,W=W6.drew:=⟨_,rfl⟩
   rw [← hWz]
   have hbz:Below W6.heap.size W6 Wz:=by rw [hWz];exact below_drew _
   have y0:=fun n:Up Wz=>n.cell (below_cell hbz pc6)
   have y1:=fun n:Up Wz=>n.cell (below_cell hbz bn6)
   have y2:=fun n:Up Wz=>n.cell (below_cell hbz x0)
   have y3:=fun n:Up Wz=>n.cell (below_cell hbz x1)
   have y4:=fun n:Up Wz=>n.cell (below_cell hbz x2)
   have y5:=fun n:Up Wz=>n.cell (below_cell hbz x3)
   have y6:=fun n:Up Wz=>n.cell (below_cell hbz x4)
   have hPz:=HPQ6.out.below hbz
   have hszz:=hbz.size
   clear hWz pc6 bn6 x0 x1 x2 x3 x4
   repeat (first | refine turn_p rfl ?_ | refine turn_q rfl ?_);go_big_quiet_step (fail);refine wpQuiet_nil ?_
   refine turn_n rfl ?_
   clear y0 y1 y2 y3 y4 y5 y6
   go_wp2_with fail
   refine ⟨rfl,(Below.refl _ _).alloc (Nat.le_refl _) _,?_⟩
   refine turn_t rfl ?_
   refine wpList_append_new _ rfl _ _ 36 rfl B 167 i0 clZ 7 56 Tryz.underlying36 hi0 hz0 hz1 hz2 rfl (by decide) (.slice ad cs.length cap) _ _ rfl (hPz.own.alloc _) ⟨Wz.heap.size,0,none⟩ 1 1 (clC ⟨m,b.n,⟨F1,F2,F3,F4,F5⟩⟩) rfl rfl ?d1 ?d2 ?d3 ?d4 ?d5 (by decide) ?_
   case d1=>exact cells_of_list rfl
   case d2=>exact clC_one _
   case d3=>unfold maxLen;omega
   case d4=>omega
   case d5=>have:=hPz.ge;have:=hPz.lt;simp;omega
   intro v6 w6 hown6 hgr6 hfr6
   obtain ⟨Wy,hWy⟩:∃ W,W=Wz.alloc (.cells (clC ⟨m,b.n,⟨F1,F2,F3,F4,F5⟩⟩).toArray 167):=⟨_,rfl⟩
   have hby:Below Wz.heap.size Wz Wy:=by rw [hWy];exact (Below.refl _ _).alloc (Nat.le_refl _) _
   have hgr:Wy.grownBy w6 (Value.slice ad cs.length cap).ownBlock:=by rw [hWy];exact hgr6
   have hfr:Fresh Wy (.slice ad cs.length cap) v6:=by rw [hWy];exact hfr6
   have hB6:=HB6.out
   have hbzy:Below W6.heap.size W6 Wy:=hbz.trans (hby.mono hbz.size)
   have hBy:Below w.heap.size w Wy:=hB6.trans (hbzy.mono hB6.size)
   obtain ⟨⟨k0,z0⟩,hP8,hT8,hfw,hblk,hvn,hsz8⟩:=RPerAt.more HPQ.out hBy hown6 hgr hfr
   have hs6y:=hbzy.size
   obtain ⟨ad6,cap6,hv6⟩:∃ ad6 cap6,v6 = .slice ad6 (cs.length + 1) cap6:=by
    obtain ⟨a,c,e⟩:=own_lenN hP8.own
    rw [List.length_append] at e
    exact ⟨a,c,e⟩
   subst hv6
   obtain ⟨W9,hW9⟩:∃ W,W=w6.setCell ⟨pq,3,none⟩ (.slice ad6 (cs.length + 1) cap6):=⟨_,rfl⟩
   rw [← hW9] at hP8 hT8 hblk hsz8
   have cell9:∀ (k j:Nat) (x:Value),w.heap.size≤k→W6.cell? ⟨k,j,none⟩=some x→W9.cell? ⟨k,j,none⟩=some x:=fun k j x hk hx=>by
    have hlt:k < W6.heap.size:=World.block_lt_of_cell? _ _ hx
    exact (World.cell?_of_block (a:=⟨k,j,none⟩) (hblk k hk (by omega))).trans (below_cell hbzy hx)
   have hR9:FigAt W9 w.heap.size fig0:=HR6.out.same ((hblk _ (Nat.le_refl _) (by have:=HR6.out.lt;omega)).trans (hbzy.block _ HR6.out.lt))
   have hG9:FigAt W9 fb ⟨F1,F2,F3,F4,F5⟩:=HFG.out.same ((hblk _ (by omega) (by have:=HFG.out.lt;omega)).trans (hbzy.block _ HFG.out.lt))
   obtain ⟨n0,n1,n2,n3,n4⟩:=HN6.out
   have HN9:=hidE (And.intro (cell9 _ _ _ (by omega) n0) (And.intro (cell9 _ _ _ (by omega) n1) (And.intro (cell9 _ _ _ (by omega) n2) (And.intro (cell9 _ _ _ (by omega) n3) (cell9 _ _ _ (by omega) n4)))))
   have hne1:pq ≠ w.heap.size:=by have:=HPQ.out.lt;omega
   have hP10:=hP8.told ⟨u1,u2,u3,u4,u5⟩
   have hR10:FigAt (setT W9 pq ⟨u1,u2,u3,u4,u5⟩) w.heap.size fig0:=hR9.same (setT_other _ _ _ (fun e=>hne1 e.symm))
   have hG10:FigAt (setT W9 pq ⟨u1,u2,u3,u4,u5⟩) fb ⟨F1,F2,F3,F4,F5⟩:=hG9.same (setT_other _ _ _ (by have:=HPQ.out.lt;omega))
   have hvw:(Value.slice ad6 (cs.length + 1) cap6).ownBlock ≠ some w.heap.size:=hvn _ (Nat.le_refl _) (by have:=HR6.out.lt;omega)
   have HFIN:Hid (RCloseP w B pq (.slice ad cs.length cap) b cs ⟨t1',t2',t3',t4',t5'⟩ m (.returned (.tuple #[figV ⟨F1,F2,F3,F4,F5⟩,.int .i64 0])) (set5 (setT W9 pq ⟨u1,u2,u3,u4,u5⟩) w.heap.size ⟨F1,F2,F3,F4,F5⟩)):=by
    refine ⟨⟨F1,F2,F3,F4,F5⟩,0,cs ++ [⟨m,b.n,⟨F1,F2,F3,F4,F5⟩⟩],_,⟨u1,u2,u3,u4,u5⟩,rfl,.inr (.inr (.inr ⟨hm,HNC.out,by omega,rfl,?_,rfl,HU.out⟩)),hP10.set5 hne1 hvw _,turned_set5n (turned_setT hT8 _) (Nat.le_refl _) _,hfw⟩
    rw [HF.out,HU.out]
   have HG11:=hidE (hR10.put ⟨F1,F2,F3,F4,F5⟩)
   have HW9:=hidE hW9
   have HP8:=hidE hP8
   have HR10:=hidE hR10
   have HG10:=hidE hG10
   clear hgr6 hfr6 hgr hfr hWy hown6 hP8 hT8 hfw hblk hvn hby hbz hbzy hBy cell9 n0 n1 n2 n3 n4 hR9 hG9 hP10 hR10 hG10 hB6 hPz hW9
   go_wp2_with fail
   refine ⟨rfl,?_⟩
   repeat (first | refine turn_p rfl ?_ | refine turn_q rfl ?_);go_big_quiet_step (fail);refine wpQuiet_nil ?_
   refine turn_t rfl ?_
   go_wp2_with fail
   refine ⟨rfl,?_⟩
   refine turn_nil ?_
   rw [← HW9.out]
   clear k0 z0
   obtain ⟨n0,n1,n2,n3,n4⟩:=HN9.out
   have p1:=HP8.out.c1
   have p2:=HP8.out.c2
   have p3:=HP8.out.c3
   have p4:=HP8.out.c4
   have p5:=HP8.out.c5
   have q1:=HP8.out.fz 4
   have q2:=HP8.out.fz 5
   have q3:=HP8.out.fz 6
   have q4:=HP8.out.fz 7
   have q5:=HP8.out.fz 8
   simp only at p1 p2 p3 p4 p5
   have f0:=HG10.out.c0
   have f1:=HG10.out.c1
   have f2:=HG10.out.c2
   have f3:=HG10.out.c3
   have f4:=HG10.out.c4
   have d0:=HR10.out.c0
   have d1:=HR10.out.c1
   have d2:=HR10.out.c2
   have d3:=HR10.out.c3
   have d4:=HR10.out.c4
   have e0:=HR10.out.z0
   have e1:=HR10.out.z1
   have e2:=HR10.out.z2
   have e3:=HR10.out.z3
   have e4:=HR10.out.z4
   unfold setT at f0 f1 f2 f3 f4 d0 d1 d2 d3 d4 e0 e1 e2 e3 e4
   simp only [fig0] at f0 f1 f2 f3 f4 d0 d1 d2 d3 d4 e0 e1 e2 e3 e4
   go_wp2
   have g0:=HG11.out.c0
   have g1:=HG11.out.c1
   have g2:=HG11.out.c2
   have g3:=HG11.out.c3
   have g4:=HG11.out.c4
   unfold set5 setT at g0 g1 g2 g3 g4
   simp only at g0 g1 g2 g3 g4
   exact bodyPost_ret (v:=.tuple #[.agg #[.int .i64 F1,.int .i64 F2,.int .i64 F3,.int .i64 F4,.int .i64 F5],.int .i64 0]) (by simp [results,Tryz.results56,go_sem,g0,g1,g2,g3,g4]) rfl HFIN.out
theorem does_same {b:Bk} {cs cs' ds':List Cl} {T' F F':Fig} {m c c':Int} (h:DoesC b cs m c F cs') (h':RDoes b cs (sumC fig0 cs) m c' F' ds' T'):c=c'∧F=F'∧cs'=ds'∧T'=sumC fig0 cs':=by
 rcases h with ⟨h1,rfl,rfl,rfl⟩ | ⟨h1,h2,rfl,rfl,rfl⟩ | ⟨h1,h2,h3,rfl,rfl,rfl⟩ | ⟨h1,h2,h3,rfl,hF,hc⟩ <;>
  rcases h' with ⟨k1,rfl,rfl,rfl,rfl⟩ | ⟨k1,k2,rfl,rfl,rfl,rfl⟩ | ⟨k1,k2,k3,rfl,rfl,rfl,rfl⟩ | ⟨k1,k2,k3,rfl,kF,kc,rfl⟩ <;>
  first
   | exact ⟨rfl,rfl,rfl,rfl⟩
   | (exfalso;omega)
   | (exfalso;simp_all;done)
   | skip
 have e:F=F':=by rw [hF,kF,unp_is cs (untl_ok _ _)]
 subst e
 refine ⟨rfl,rfl,by rw [hc,kc],?_⟩
 rw [hc,hF]
 exact (sum_close cs m b.n (untl_ok _ _)).symm
def lateD (cs:List Cl) (n:Int):Bool:=decide (0≤n∧n≤99999) && cov cs (dK n:Int)
set_option maxHeartbeats 1000000 in
theorem rlate_any {w:World} {B pq:Nat} {cv:Value} {cs:List Cl} {T:Fig} (hp:RPerAt w B pq cv cs T) (hl:cs.length≤1000) (n:Int) :
  Calls Tryz.prog 48 #[.pointer (some ⟨pq,3,none⟩),.int .i64 n] w fun r w'=>r = .returned (.bool (lateD cs n))∧Below w.heap.size w w':=by
 by_cases hn:0≤n∧n≤99999
 ·have hmo:=rmonth_ok n w hn.1 hn.2
  have hla:=rlastP_any hp hl
  have HLD:Hid (lateD cs n=decide ((dK n:Int)≤lastM cs)):=by
   show _=_
   unfold lateD
   rw [decide_eq_true hn,cov_last cs _ (by omega)];rfl
  obtain ⟨N,hN⟩:∃ N:Int,N=(dK n:Int):=⟨_,rfl⟩
  rw [← hN] at hmo HLD
  clear hp hN
  go_enter Tryz.func48,Tryz.ntmps48
  go_wp2_with fail
  refine hmo.mono ?_
  rintro r w' ⟨rfl,hw'⟩
  subst w'
  clear hmo
  go_wp2_with fail
  refine hla.mono ?_
  rintro r w1 ⟨rfl,hb1⟩
  clear hla
  go_wp2
  go_ret
  exact ⟨by rw [HLD.out];rfl,hb1⟩
 ·have hmo:=rmonth_bad n w (by omega)
  have HLD:Hid (lateD cs n=false):=by
   show _=_
   unfold lateD
   rw [decide_eq_false hn];rfl
  clear hp
  go_enter Tryz.func48,Tryz.ntmps48
  go_wp2_with fail
  refine hmo.mono ?_
  rintro r w' ⟨rfl,hw'⟩
  subst w'
  clear hmo
  go_wp2
  go_ret
  exact ⟨by rw [HLD.out];rfl,Below.refl _ _⟩
end Go.Proofs.YtdkhohlhdiekmaaGreatDoor
