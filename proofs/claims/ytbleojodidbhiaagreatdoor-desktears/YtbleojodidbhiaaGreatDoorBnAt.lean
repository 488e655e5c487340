/-  -/
import Derived.Test.YtbleojodidbhiaaGreatDoorBnRe
import Derived.Test.YtbleojodidbhiaaGreatDoorBnKy
import Derived.Test.YtbleojodidbhiaaGreatDoorBnM
namespace Go.Proofs.YtbleojodidbhiaaGreatDoor
open Go.RowKit Go.Maps Go.Shelf
theorem nodup_le {α:Type}:∀ (l m:List α),l.Nodup→(∀ x ∈ l,x ∈ m)→l.length≤m.length
 | [],_,_,_=>Nat.zero_le _
 | a :: l,m,hn,hs=>by
  obtain ⟨s,t,rfl⟩:=List.append_of_mem (hs a (List.mem_cons_self ..))
  have h1:=nodup_le l (s ++ t) (List.nodup_cons.1 hn).2 fun x hx=>by
   have h2:=hs x (List.mem_cons_of_mem _ hx)
   have h3:x ≠ a:=fun e=>(List.nodup_cons.1 hn).1 (e ▸ hx)
   simp only [List.mem_append,List.mem_cons] at h2 ⊢
   rcases h2 with h2 | h2 | h2
   ·exact Or.inl h2
   ·exact absurd h2 h3
   ·exact Or.inr h2
  simp only [List.length_append,List.length_cons] at h1 ⊢
  omega
theorem goS_not (x:ByteArray):∀ (es:List Ev) (M:Stks),(∀ e ∈ es,e.item ≠ x)→goS M es x=M x
 | [],_,_=>rfl
 | e :: es,M,h=>by
  have h1:=goS_not x es (upd M e.item (doE (M e.item) e).1) (fun y hy=>h y (List.mem_cons_of_mem _ hy))
  show goS (upd M e.item (doE (M e.item) e).1) es x=M x
  rw [h1,upd_other]
  exact fun c=>h e (List.mem_cons_self ..) c.symm
theorem some_item {l:List Ev} {x:ByteArray} (h:(goS stk00 (ordd l) x).ys ≠ []):∃ e ∈ ordd l,e.item=x:=by
 refine Classical.byContradiction fun c=>h ?_
 rw [goS_not x _ _ fun e he e2=>c ⟨e,he,e2⟩]
 rfl
theorem res_has {B:Nat} {W:World} {mb n:Nat} {D:DataW Value} {V:ByteArray→Value} {M:Stks} {u:Value} {ls:List Lin} (h:RunRes B W mb n D V M u ls) (x:ByteArray):has D (keyB x)=true ↔ (M x).ys ≠ []:=by
 by_cases e:(M x).ys=[]
 ·rw [h.no x e];simp [e]
 ·rw [has_true_of_atKey (h.yes x e)];simp [e]
theorem keys_len {l:List Ev} {ks:List ByteArray} (h:Keys (fun x=>(goS stk00 (ordd l) x).ys ≠ []) ks):ks.length≤l.length:=by
 have h1:=nodup_le ks ((ordd l).map (·.item)) h.nodup fun x hx=>by
  obtain ⟨e,he,rfl⟩:=some_item ((h.mem x).1 hx)
  exact List.mem_map_of_mem he
 rw [List.length_map] at h1
 exact Nat.le_trans h1 (ordd_len l)
theorem res_few {B:Nat} {W:World} {mb n:Nat} {D:DataW Value} {V:ByteArray→Value} {l:List Ev} {u:Value} {ls:List Lin} (h:RunRes B W mb n D V (goS stk00 (ordd l)) u ls):Maps.size D≤l.length:=by
 obtain ⟨ks,hk,hm⟩:=keysD h.map (res_has h) (List.Perm.refl (strKeys D))
 have h1:=congrArg List.length hm
 rw [List.length_mergeSort,List.length_map] at h1
 have h2:(strKeys D).length=Maps.size D:=by
  obtain ⟨es,rfl⟩:IsMap D:=(h.map.canon law_strT).imp fun es ⟨e,_⟩=>e
  simp [strKeys,Maps.size]
 have:=keys_len hk
 omega
def holdZ:Value:=.agg #[.string ⟨#[]⟩,.int .i64 0,.int .i64 0]
theorem hold_info:(Tryz.prog.info? 162).map (fun i=>(i.zero,i.size,i.bytes))=some (some holdZ,3,32):=by kernel_rfl
def holdC (M:Stks) (k:ByteArray):List Value:=[.string k,.int .i64 (sumQ (M k).ys),.int .i64 (sumV (M k).ys)]
theorem holdC_one (M:Stks) (p:ByteArray):∀ u ∈ holdC M p,u.oneCell'=true:=by
 intro u hu
 simp only [holdC,List.mem_cons,List.not_mem_nil,or_false] at hu
 rcases hu with rfl | rfl | rfl <;> rfl
noncomputable def evUp (b:Bk) (n t:Int):List Ev:=(srt (asOf b (tOf b t))).filter fun e=>!decide (n < e.day)
set_option maxRecDepth 20000 in
set_option maxHeartbeats 4000000 in
theorem reat_any {B pb:Nat} {sv:Value} {b:Bk} {w:World} (h:BookAt w B pb sv b) (hl:b.vs.length≤1000) (n t:Int) (hw:∀ e ∈ evUp b n t,EvW e) :
  Calls Tryz.prog 119 #[.pointer (some ⟨pb,0,none⟩),.int .i64 n,.int .i64 t] w fun r w'=>∃ (u:Value) (ks:List ByteArray),r = .returned u∧Keys (fun x=>(goS stk00 (ordd (evUp b n t)) x).ys ≠ []) ks∧w'.ownsRow w.heap.size 162 3 u ks.length (ks.flatMap (holdC (goS stk00 (ordd (evUp b n t)))))∧Below w.heap.size w w':=by
 obtain ⟨i0,hi,hz0,hz1,hz2⟩:=info_parts hold_info
 obtain ⟨W0,hW0⟩:∃ W,W=w.alloc (.cells #[.int .i64 n] 3):=⟨_,rfl⟩
 have hb0:Below w.heap.size w W0:=by rw [hW0];exact (Below.refl _ _).alloc (Nat.le_refl _) _
 have hc0:W0.cell? ⟨w.heap.size,0,none⟩=some (.int .i64 n):=by rw [hW0];simp
 have hkn:=kn_any (h.below hb0) hl t 172 #[.pointer (some ⟨w.heap.size,0,none⟩)] (fun e=>decide (n < e.day)) (enters_of Tryz.func172 (by kernel_rfl) rfl) (fun e W hb=>atBut_any e n w.heap.size W (below_cell hb hc0))
 have hlen:(evUp b n t).length≤10000:=by
  have h1:=List.length_filter_le (fun e:Ev=>!decide (n < e.day)) (srt (asOf b (tOf b t)))
  rw [srt_len] at h1
  unfold asOf at h1
  rw [List.length_map] at h1
  have h2:=List.length_filter_le (isAt (tOf b t)) b.vs
  unfold evUp asOf
  omega
 have hkn2:Calls Tryz.prog 171 #[.pointer (some ⟨pb,0,none⟩),.int .i64 t,.func (.func 172) #[] #[.pointer (some ⟨w.heap.size,0,none⟩)]] W0 fun r w'=>∃ v:Value,r = .returned v∧w'.ownsRow W0.heap.size 93 7 v (evUp b n t).length ((evUp b n t).flatMap evC)∧Below W0.heap.size W0 w':=hkn
 obtain ⟨L,hL⟩:∃ L,L=evUp b n t:=⟨_,rfl⟩
 rw [← hL] at hkn2 hlen hw ⊢
 have HB0:=hidE hb0
 have HW0:=hidE hW0
 clear hkn h hL hb0 hW0 hc0
 go_enter Tryz.func119,Tryz.ntmps119
 go_wp2_with fail
 rw [← HW0.out]
 refine hkn2.mono ?_
 rintro r w1 ⟨v1,rfl,hown1,hb1⟩
 have hrun:=run_any L v1 w1 (EvsAt.of_own hown1) hw hlen
 obtain ⟨ad1,cp1,hv1⟩:=own_lenN hown1
 subst hv1
 have HB1:Hid (Below w.heap.size w w1):=HB0.out.trans (hb1.mono HB0.out.size)
 clear hkn2 hown1 hb1
 go_wp2_with fail
 refine hrun.mono ?_
 rintro r w2 ⟨rv,rfl,hres,hb2⟩
 clear hrun
 obtain ⟨u,mb,nn,D,V,rfl,hmb,hVb,hR⟩:=hres
 obtain ⟨M,hM⟩:∃ M,M=goS stk00 (ordd L):=⟨_,rfl⟩
 have hsz:=res_few hR
 have hisz:∀ x,(M x).ys ≠ []→x.size≤maxLen:=fun x hx=>by
  rw [hM] at hx
  obtain ⟨e,he,rfl⟩:=some_item hx
  have h1:=(ordd_rt L e he).1.1.2
  rw [eba_len] at h1
  unfold maxLen;omega
 have hok:∀ x,StkOK 10000 (M x):=fun x=>by
  have h1:=(goS_ok (ordd L) 0 stk00 (fun y=>stk0_ok 0) (ordd_rt L)).1 x
  rw [hM]
  exact h1.more (by have:=ordd_len L;omega)
 have hkl:=fun ks=>@keys_len L ks
 rw [← hM] at hR hkl
 have HMM:Hid (M=goS stk00 (ordd L)):=hM
 obtain ⟨adu,cu,hvu⟩:=own_lenN hR.own
 subst hvu
 obtain ⟨W3,hW3⟩:∃ W,W=w2.alloc (.cells #[.slice adu (goL stk00 (ordd L)).length cu,.map (some mb)] 223):=⟨_,rfl⟩
 obtain ⟨ls,hls⟩:∃ ls,ls=goL stk00 (ordd L):=⟨_,rfl⟩
 rw [← hls] at hR hW3
 have hb3:Below w2.heap.size w2 W3:=by rw [hW3];exact (Below.refl _ _).alloc (Nat.le_refl _) _
 have hR3:=hR.below hb3
 have hr0:W3.cell? ⟨w2.heap.size,0,none⟩=some (.slice adu ls.length cu):=by rw [hW3];simp
 have hr1:W3.cell? ⟨w2.heap.size,1,none⟩=some (.map (some mb)):=by rw [hW3];simp
 have hs3:W3.heap.size=w2.heap.size + 1:=by rw [hW3];simp
 obtain ⟨rb,hrb⟩:∃ r,r=w2.heap.size:=⟨_,rfl⟩
 rw [← hrb] at hr0 hr1 hs3
 have hK:=callsIn_wide.1 (Tryz.maps_KeysL (some mb) W3)
 have hSo:=callsIn_wide.1 (Tryz.sorted_keysL mb nn D heldE W3 hR3.map (by unfold maxLen;omega) (by omega))
 have hB2:Below w.heap.size w W3:=(HB1.out.trans (hb2.mono HB1.out.size)).trans (hb3.mono (HB1.out.trans (hb2.mono HB1.out.size)).size)
 have HB2:=hidE hB2
 have HK:=hidE hK
 have HSo:=hidE hSo
 have HR:=hidE hR3
 have HISZ:=hidE hisz
 have HOK:=hidE hok
 have HKL:=hidE hkl
 have HW3:=hidE hW3
 have HRB:=hidE hrb
 have HLS:=hidE hls
 have HR0:=hidE hr0
 have HR1:=hidE hr1
 have HS3:=hidE hs3
 have hsw:=hB2.size
 clear hK hSo hR hR3 hB2 hb2 hb3 hM hisz hok hkl hw HW0 HB0 HB1 hVb hsz hW3 hrb hls hr0 hr1 hs3
 go_wp2_with fail
 rw [← HLS.out,← HW3.out]
 rw [← HRB.out]
 refine HK.out.mono ?_
 rintro e w3 ⟨rfl,rfl⟩
 go_wp2_with fail
 refine HSo.out.mono ?_
 rintro e w4 ⟨kv,ss,rfl,hS,hrow,_,hb4⟩
 obtain ⟨ks,hks,hms⟩:=keysD HR.out.map (res_has HR.out) hS
 rw [hms] at hrow
 have hsl:ss.length=ks.length:=by
  have h1:=congrArg List.length hms
  rw [List.length_mergeSort,List.length_map] at h1
  exact h1
 rw [hsl] at hrow
 have hrow2:w4.ownsRow (W3.heap.size + 1) 9 1 kv ks.length (ks.flatMap fun x=>[Value.string x]):=by
  rw [enc_flatK ks] at hrow
  simpa using hrow
 have hkl:ks.length≤10000:=Nat.le_trans (HKL.out ks hks) hlen
 have hb24:Below W3.heap.size W3 w4:=((Below.refl _ _).alloc (Nat.le_refl _) (.cells #[.map (some mb)] 221)).trans (hb4.mono (by simp))
 have HR4:Hid (RunRes _ w4 mb nn D V M _ _):=HR.out.below hb24
 have HB4:Hid (Below w.heap.size w w4):=HB2.out.trans (hb24.mono hsw)
 have HKS:=hidE hks
 have HBC:Hid (rb + 1≤w4.heap.size):=by show _≤_;have h1:=hb24.size;rw [HS3.out] at h1;exact h1
 have HR40:Hid (w4.cell? ⟨rb,0,none⟩=some (.slice adu ls.length cu)):=(hb24.cell (p:=⟨rb,0,none⟩) (by rw [HS3.out];exact Nat.lt_succ_self _)).trans HR0.out
 have HR41:Hid (w4.cell? ⟨rb,1,none⟩=some (.map (some mb))):=(hb24.cell (p:=⟨rb,1,none⟩) (by rw [HS3.out];exact Nat.lt_succ_self _)).trans HR1.out
 have HRW:=hidE hrow2
 have hs4:=HB4.out.size
 have hform:=own_form hrow2
 clear hS hrow hb4 hms hsl hks HK HSo HR HB2 hb24 HKL
 obtain ⟨adk,nk,cpk,hkv⟩:∃ ad n cap,kv = .slice ad n cap∧n=ks.length:=by
  rcases hform with ⟨e,e2,_⟩ | ⟨g,c,e,_⟩
  ·exact ⟨none,0,0,e,e2.symm⟩
  ·exact ⟨_,_,_,e,rfl⟩
 obtain ⟨rfl,hnk⟩:=hkv
 subst hnk
 clear hform hrow2
 have hr4:rb < w4.heap.size:=by have:=HR4.out;have h1:=HBC.out;omega
 have HC0:Hid (w4.cell? ⟨rb,0,none⟩=some (.slice adu ls.length cu)):=HR40.out
 have HC1:Hid (w4.cell? ⟨rb,1,none⟩=some (.map (some mb))):=HR41.out
 go_wp2
 go_loopw [8,23] (fun u i wr=>∃ k:Nat,k≤ks.length∧i = .int .i64 k∧Hid (wr.ownsRow w4.heap.size 162 3 u (ks.take k).length ((ks.take k).flatMap (holdC M)))∧Hid (Below w4.heap.size w4 wr)) (fun _ i _=>ks.length - (intOf i).toNat)
 case atStart=>exact ⟨0,Nat.zero_le _,rfl,World.ownsRow_nil _ _ _ _,Below.refl _ _⟩
 case round=>
  obtain ⟨k,hk,rfl,HO,HBW⟩:=hrel
  have hsww:=HBW.out.size
  by_cases hlt:k < ks.length
  ·obtain ⟨ad3,n3,cp3,hv3⟩:=own_lenK HO.out
   subst hv3
   rcases own_form HRW.out with ⟨_,e2,_⟩ | ⟨g,cp,e1,_,hgl,_⟩
   ·rw [e2] at hlt;exact absurd hlt (Nat.not_lt_zero _)
   ·simp only [Value.slice.injEq] at e1
    obtain ⟨rfl,_,rfl⟩:=e1
    have q0:=(own_cell (m:=1) (fun _=>rfl) HRW.out k 0 hlt (by omega)).1
    obtain ⟨x,hx⟩:∃ x,x=ks[k]:=⟨_,rfl⟩
    rw [← hx] at q0
    have hxs:x.size≤maxLen:=HISZ.out x (by rw [hx];exact (HKS.out.mem _).1 (List.getElem_mem hlt))
    simp only [List.getElem?_cons_zero,Nat.mul_one,Nat.add_zero] at q0
    have q1:wr.cell? ⟨g,k,none⟩=some (.string x):=(HBW.out.cell (p:=⟨g,k,none⟩) hgl).trans q0
    have f0:=(HBW.out.cell (p:=⟨rb,0,none⟩) hr4).trans HC0.out
    have f1:=(HBW.out.cell (p:=⟨rb,1,none⟩) hr4).trans HC1.out
    have hsum:=Sum_any (B:=0) (rv:=.agg #[.slice adu ls.length cu,.map (some mb)]) (W:=wr) (M:=M) (ls:=ls) ⟨_,mb,nn,D,V,rfl,Nat.zero_le _,fun _ _ _=>Nat.zero_le _,(⟨(HR4.out.below HBW.out).map,HR4.out.no,HR4.out.yes,(HR4.out.below HBW.out).lay,own_below (HR4.out.below HBW.out).own (Below.refl _ _) (Nat.zero_le _)⟩:RunRes 0 wr mb nn D V M _ ls)⟩ x hxs (HOK.out x) (Nat.le_refl _)
    have HTK:Hid (ks.take (k + 1)=ks.take k ++ [x]):=by show _=_;rw [hx];exact List.take_succ_eq_append_getElem hlt
    have htl:(ks.take k).length=k:=by rw [List.length_take];omega
    have HTL:=hidE htl
    clear hx q0 htl
    go_wp2_with fail
    refine hsum.mono ?_
    rintro r w6 ⟨rfl,hb6⟩
    have hown:w6.ownsRow w4.heap.size 162 3 (.slice ad3 n3 cp3) k ((ks.take k).flatMap (holdC M)):=by
     have h1:=own_below HO.out hb6 (Nat.le_refl _)
     rw [HTL.out] at h1
     exact h1
    have hB6:Below w4.heap.size w4 w6:=HBW.out.trans (hb6.mono hsww)
    have hs6:=hB6.size
    have HB6:=hidE hB6
    clear hsum f0 f1 q1 hB6 hb6
    go_wp2_with (first
     | (at_builtin;refine wpList_append_new _ rfl _ _ 159 rfl w4.heap.size 162 i0 holdZ 3 32 Tryz.underlying159 hi hz0 hz1 hz2 rfl (by decide) (.slice ad3 n3 cp3) _ _ rfl (hown.alloc _) ⟨w6.heap.size,0,none⟩ 1 1 (holdC M x) rfl rfl ?d1 ?d2 ?d3 ?d4 ?d5 (by omega) ?_)
     | go_in)
    case d1=>simpa [holdC] using cells_of_list (w:=w6) (cs:=holdC M x) (T:=162) rfl
    case d2=>exact holdC_one _ _
    case d3=>unfold maxLen;omega
    case d4=>omega
    case d5=>first | omega | (simp;omega)
    intro v' w5 hown5 hg5 _
    obtain ⟨ad5,nn5,cp5,hv5⟩:=own_lenK hown5
    subst hv5
    have HB5:Hid (Below w4.heap.size w4 w5):=by
     have b1:Below w4.heap.size w4 (w6.alloc (.cells #[.string x,.int .i64 (sumQ (M x).ys),.int .i64 (sumV (M x).ys)] 162)):=HB6.out.alloc hs6 _
     exact b1.grown hg5 b1.size (fun j hj=>(hown.lt j hj).1)
    have HO5:Hid (w5.ownsRow w4.heap.size 162 3 (.slice ad5 nn5 cp5) (ks.take (k + 1)).length ((ks.take (k + 1)).flatMap (holdC M))):=by
     show w5.ownsRow _ _ _ _ _ _
     rw [HTK.out,List.length_append,List.flatMap_append,HTL.out]
     simpa using hown5
    clear hown5 hg5 hown
    go_wp2
    go_roundw
    case rel=>exact ⟨k + 1,by omega,by go_num,HO5,HB5⟩
    case measure=>simp [intOf];omega
  ·have hk2:k=ks.length:=by omega
   subst hk2
   obtain ⟨ad3,n3,cp3,hv3⟩:=own_lenK HO.out
   subst hv3
   have HO5:Hid (wr.ownsRow w.heap.size 162 3 (.slice ad3 n3 cp3) ks.length (ks.flatMap (holdC M))):=by
    have h1:=HO.out
    rw [List.take_length] at h1
    exact own_below h1 (Below.refl _ _) hs4
   have HB5:Hid (Below w.heap.size w wr):=HB4.out.trans (HBW.out.mono hs4)
   go_wp2
   go_ret
   refine ⟨_,ks,rfl,?_,?_,HB5.out⟩
   ·rw [← HMM.out];exact HKS.out
   ·rw [← HMM.out];exact HO5.out
set_option maxHeartbeats 1000000 in
theorem movBut_any (e:Ev) (x:ByteArray) (bx:Nat) (W:World) (hc:W.cell? ⟨bx,0,none⟩=some (.string x)) :
  Calls Tryz.prog 184 (#[evV e] ++ #[.pointer (some ⟨bx,0,none⟩)]) W fun r w'=>r = .returned (.bool (!decide (e.item=x)))∧Below W.heap.size W w':=by
 obtain ⟨id,item,kind,qty,price,ofI,day⟩:=e
 unfold evV
 simp only
 have hne:bx ≠ W.heap.size:=by have:=World.block_lt_of_cell? _ _ hc;show bx ≠ _;have h2:bx < W.heap.size:=this;omega
 have hlt:bx < W.heap.size:=World.block_lt_of_cell? _ _ hc
 go_enter Tryz.func184,Tryz.ntmps184
 go_wp2
 go_ret
 refine ⟨?_,(Below.refl _ _).alloc (Nat.le_refl _) _⟩
 have e:(item.toList == x.toList)=decide (item=x):=by
  rw [Bool.eq_iff_iff,beq_iff_eq,decide_eq_true_eq]
  refine ⟨fun h=>?_,fun h=>by rw [h]⟩
  rw [ByteArray.toList_eq,ByteArray.toList_eq] at h
  exact ByteArray.ext (Array.ext' h)
 rw [← e]
 rfl
def movZ:Value:=.agg #[.int .i64 0,.string ⟨#[]⟩,.int .i64 0,.int .i64 0,.int .i64 0,.int .i64 0,.int .i64 0,.int .i64 0,.int .i64 0,.int .i64 0,.int .i64 0,.bool false,.int .i64 0,.int .i64 0]
theorem mov_info:(Tryz.prog.info? 182).map (fun i=>(i.zero,i.size,i.bytes))=some (some movZ,14,120):=by kernel_rfl
noncomputable def evIt (b:Bk) (x:ByteArray) (t:Int):List Ev:=(srt (asOf b (tOf b t))).filter fun e=>decide (e.item=x)
noncomputable def movC (L:List Ev) (x:ByteArray) (k:Nat):List Value:=(L[k]?.map evC).getD [] ++ ((goL stk00 (ordd (L.take (k + 1))))[k]?.map linC).getD [] ++ [.int .i64 (sumQ (goS stk00 (ordd (L.take (k + 1))) x).ys),.int .i64 (sumV (goS stk00 (ordd (L.take (k + 1))) x).ys)]
set_option maxRecDepth 20000 in
set_option maxHeartbeats 4000000 in
theorem remov_any {B pb:Nat} {sv:Value} {b:Bk} {w:World} (h:BookAt w B pb sv b) (hl:b.vs.length≤1000) (x:ByteArray) (hxs:x.size≤maxLen) (t:Int) (hw:∀ e ∈ evIt b x t,EvW e) (hr:∀ e ∈ evIt b x t,Rt e) :
  Calls Tryz.prog 130 #[.pointer (some ⟨pb,0,none⟩),.string x,.int .i64 t] w fun r w'=>∃ u:Value,r = .returned u∧w'.ownsRow w.heap.size 182 14 u (evIt b x t).length ((List.range (evIt b x t).length).flatMap (movC (evIt b x t) x))∧Below w.heap.size w w':=by
 obtain ⟨i0,hi,hz0,hz1,hz2⟩:=info_parts mov_info
 obtain ⟨W0,hW0⟩:∃ W,W=w.alloc (.cells #[.string x] 9):=⟨_,rfl⟩
 have hb0:Below w.heap.size w W0:=by rw [hW0];exact (Below.refl _ _).alloc (Nat.le_refl _) _
 have hc0:W0.cell? ⟨w.heap.size,0,none⟩=some (.string x):=by rw [hW0];simp
 have hkn:=kn_any (h.below hb0) hl t 184 #[.pointer (some ⟨w.heap.size,0,none⟩)] (fun e=>!decide (e.item=x)) (enters_of Tryz.func184 (by kernel_rfl) rfl) (fun e W hb=>movBut_any e x w.heap.size W (below_cell hb hc0))
 have hlen:(evIt b x t).length≤10000:=by
  have h1:=List.length_filter_le (fun e:Ev=>decide (e.item=x)) (srt (asOf b (tOf b t)))
  rw [srt_len] at h1
  unfold asOf at h1
  rw [List.length_map] at h1
  have h2:=List.length_filter_le (isAt (tOf b t)) b.vs
  unfold evIt asOf
  omega
 have hkn2:Calls Tryz.prog 171 #[.pointer (some ⟨pb,0,none⟩),.int .i64 t,.func (.func 184) #[] #[.pointer (some ⟨w.heap.size,0,none⟩)]] W0 fun r w'=>∃ v:Value,r = .returned v∧w'.ownsRow W0.heap.size 93 7 v (evIt b x t).length ((evIt b x t).flatMap evC)∧Below W0.heap.size W0 w':=by
  simp only [Bool.not_not] at hkn
  exact hkn
 obtain ⟨L,hL⟩:∃ L,L=evIt b x t:=⟨_,rfl⟩
 rw [← hL] at hkn2 hlen hw hr ⊢
 have HB0:=hidE hb0
 have HW0:=hidE hW0
 have HC0:=hidE hc0
 clear hkn h hL hb0 hW0 hc0
 go_enter Tryz.func130,Tryz.ntmps130
 go_wp2_with fail
 rw [← HW0.out]
 refine hkn2.mono ?_
 rintro r w1 ⟨v1,rfl,hown1,hb1⟩
 have hev:=EvsAt.of_own hown1
 obtain ⟨ad1,cp1,hv1⟩:=own_lenN hown1
 subst hv1
 have HB1:Hid (Below w.heap.size w w1):=HB0.out.trans (hb1.mono HB0.out.size)
 have HX1:Hid (w1.cell? ⟨w.heap.size,0,none⟩=some (.string x)):=below_cell hb1 HC0.out
 have HO1:=hidE hown1
 have HEV:=hidE hev
 clear hkn2 hown1 hb1 hev
 have hs1:=HB1.out.size
 go_wp2
 go_loopw [8,20] (fun u i wr=>∃ k:Nat,k≤L.length∧i = .int .i64 k∧Hid (wr.ownsRow w1.heap.size 182 14 u k ((List.range k).flatMap (movC L x)))∧Hid (Below w1.heap.size w1 wr)) (fun _ i _=>L.length - (intOf i).toNat)
 case atStart=>exact ⟨0,Nat.zero_le _,rfl,World.ownsRow_nil _ _ _ _,Below.refl _ _⟩
 case round=>
  obtain ⟨k,hk,rfl,HO,HBW⟩:=hrel
  have hsww:=HBW.out.size
  by_cases hlt:k < L.length
  ·obtain ⟨ad3,n3,cp3,hv3⟩:=own_lenK HO.out
   subst hv3
   have hcp:L.length≤cp1∧cp1≤maxLen:=by
    rcases own_form HO1.out with ⟨_,e2,_⟩ | ⟨g,cp,e1,_,_,h5,h6⟩
    ·rw [e2] at hlt;exact absurd hlt (Nat.not_lt_zero _)
    ·simp only [Value.slice.injEq] at e1;rw [e1.2.2];exact ⟨h5,h6⟩
   obtain ⟨hcp1,hcp2⟩:=hcp
   rcases HEV.out with ⟨_,e2⟩ | ⟨g,o,cp,e1,hgl,hcs⟩
   ·rw [e2] at hlt;exact absurd hlt (Nat.not_lt_zero _)
   ·simp only [Value.slice.injEq] at e1
    obtain ⟨rfl,_,rfl⟩:=e1
    obtain ⟨ev,hev⟩:∃ e,e=L[k]:=⟨_,rfl⟩
    have c0:=(HBW.out.cell (p:=⟨g,o + k * 7 + 0,none⟩) hgl).trans (hcs k 0 hlt (by omega))
    have c1:=(HBW.out.cell (p:=⟨g,o + k * 7 + 1,none⟩) hgl).trans (hcs k 1 hlt (by omega))
    have c2:=(HBW.out.cell (p:=⟨g,o + k * 7 + 2,none⟩) hgl).trans (hcs k 2 hlt (by omega))
    have c3:=(HBW.out.cell (p:=⟨g,o + k * 7 + 3,none⟩) hgl).trans (hcs k 3 hlt (by omega))
    have c4:=(HBW.out.cell (p:=⟨g,o + k * 7 + 4,none⟩) hgl).trans (hcs k 4 hlt (by omega))
    have c5:=(HBW.out.cell (p:=⟨g,o + k * 7 + 5,none⟩) hgl).trans (hcs k 5 hlt (by omega))
    have c6:=(HBW.out.cell (p:=⟨g,o + k * 7 + 6,none⟩) hgl).trans (hcs k 6 hlt (by omega))
    rw [← hev] at c0 c1 c2 c3 c4 c5 c6
    simp only [evC,List.getElem?_cons_zero,List.getElem?_cons_succ,Nat.add_zero] at c0 c1 c2 c3 c4 c5 c6
    have hgw:g < wr.heap.size:=by omega
    have HCS:=hidE hcs
    have HE:=hidE hev
    clear hcs hev
    have hkc:(k:Int) + 1≤cp1:=by omega
    have hkc2:k + 1≤cp1:=by omega
    obtain ⟨T,hT⟩:∃ T,T=L.take (k + 1):=⟨_,rfl⟩
    have hTl:T.length=k + 1:=by rw [hT,List.length_take];omega
    have hTm:∀ e ∈ T,e ∈ L:=fun e he=>by rw [hT] at he;exact List.mem_of_mem_take he
    obtain ⟨W5,hW5⟩:∃ W,W=wr.alloc (.cells #[.int .i64 ev.id,.string ev.item,.int .i64 ev.kind,.int .i64 ev.qty,.int .i64 ev.price,.int .i64 ev.ofI,.int .i64 ev.day] 93):=⟨_,rfl⟩
    have hb5:Below wr.heap.size wr W5:=by rw [hW5];exact (Below.refl _ _).alloc (Nat.le_refl _) _
    have hs5:W5.heap.size=wr.heap.size + 1:=by rw [hW5];simp
    have hB5:Below w1.heap.size w1 W5:=HBW.out.trans (hb5.mono hsww)
    have hevT:EvsAt W5 (.slice (some ⟨g,o,none⟩) (k + 1) cp1) T:=by
     refine Or.inr ⟨g,o,cp1,by rw [hTl],by omega,fun i j hi hj=>?_⟩
     have h1:=(hB5.cell (p:=⟨g,o + i * 7 + j,none⟩) hgl).trans (HCS.out i j (by omega) hj)
     subst hT
     rw [h1,List.getElem_take]
    have hrun:=run_any T _ W5 hevT (fun e he=>hw e (hTm e he)) (by omega)
    have hor:(ordd T).length=k + 1:=by rw [ordd_stl (fun e he=>hr e (hTm e he)),stl_len,hTl]
    have hxw:w.heap.size < w1.heap.size:=World.block_lt_of_cell? _ _ HX1.out
    have HX5:Hid (W5.cell? ⟨w.heap.size,0,none⟩=some (.string x)):=(hB5.cell (p:=⟨w.heap.size,0,none⟩) hxw).trans HX1.out
    have e0:W5.cell? ⟨wr.heap.size,0,none⟩=some (.int .i64 ev.id):=by rw [hW5];simp
    have e1:W5.cell? ⟨wr.heap.size,1,none⟩=some (.string ev.item):=by rw [hW5];simp
    have e2:W5.cell? ⟨wr.heap.size,2,none⟩=some (.int .i64 ev.kind):=by rw [hW5];simp
    have e3:W5.cell? ⟨wr.heap.size,3,none⟩=some (.int .i64 ev.qty):=by rw [hW5];simp
    have e4:W5.cell? ⟨wr.heap.size,4,none⟩=some (.int .i64 ev.price):=by rw [hW5];simp
    have e5:W5.cell? ⟨wr.heap.size,5,none⟩=some (.int .i64 ev.ofI):=by rw [hW5];simp
    have e6:W5.cell? ⟨wr.heap.size,6,none⟩=some (.int .i64 ev.day):=by rw [hW5];simp
    have HEC:=hidE (And.intro e0 (And.intro e1 (And.intro e2 (And.intro e3 (And.intro e4 (And.intro e5 e6))))))
    have HW5:=hidE hW5
    have HT:=hidE hT
    have HOR:=hidE hor
    have HTM:=hidE hTm
    have HTL:=hidE hTl
    have HB5:=hidE hB5
    have HS5:=hidE hs5
    have HRUN:=hidE hrun
    clear hT hor hTm hTl hW5 hb5 hs5 hB5 hevT e0 e1 e2 e3 e4 e5 e6 hrun
    go_wp2_with fail
    rw [← HW5.out]
    refine HRUN.out.mono ?_
    rintro r w6 ⟨rv,rfl,hres,hb6⟩
    clear HRUN c0 c1 c2 c3 c4 c5 c6
    obtain ⟨u,mb,nn,D,V,rfl,hmb,hVb,hR⟩:=hres
    obtain ⟨ls,hls⟩:∃ ls,ls=goL stk00 (ordd T):=⟨_,rfl⟩
    obtain ⟨M,hM⟩:∃ M,M=goS stk00 (ordd T):=⟨_,rfl⟩
    rw [← hls,← hM] at hR
    have hll:ls.length=k + 1:=by rw [hls,goL_len,HOR.out]
    have hok:StkOK 10000 (M x):=by
     have h1:=(goS_ok (ordd T) 0 stk00 (fun y=>stk0_ok 0) (ordd_rt T)).1 x
     rw [hM]
     exact h1.more (by rw [HOR.out];omega)
    obtain ⟨gu,cu,hvu,hgu⟩:∃ gu cu,u = .slice (some ⟨gu,0,none⟩) ls.length cu∧gu < w6.heap.size:=by
     rcases own_form hR.own with ⟨_,e2,_⟩ | ⟨gu,cu,e1,_,h4,_,_⟩
     ·rw [e2] at hll;exact absurd hll (by omega)
     ·exact ⟨gu,cu,e1,h4⟩
    subst hvu
    obtain ⟨adu,hadu⟩:∃ a:Option Addr,a=some ⟨gu,0,none⟩:=⟨_,rfl⟩
    have l0:=(own_cell linC_len hR.own k 0 (by omega) (by omega)).1
    have l1:=(own_cell linC_len hR.own k 1 (by omega) (by omega)).1
    have l2:=(own_cell linC_len hR.own k 2 (by omega) (by omega)).1
    have l3:=(own_cell linC_len hR.own k 3 (by omega) (by omega)).1
    have l4:=(own_cell linC_len hR.own k 4 (by omega) (by omega)).1
    have hkl:k < ls.length:=by omega
    obtain ⟨ln,hln⟩:∃ y,y=ls[k]:=⟨_,rfl⟩
    rw [← hln] at l0 l1 l2 l3 l4
    simp only [linC,List.getElem?_cons_zero,List.getElem?_cons_succ,Nat.add_zero] at l0 l1 l2 l3 l4
    clear hadu adu
    obtain ⟨W7,hW7⟩:∃ W,W=w6.alloc (.cells #[.slice (some ⟨gu,0,none⟩) ls.length cu,.map (some mb)] 223):=⟨_,rfl⟩
    have hb7:Below w6.heap.size w6 W7:=by rw [hW7];exact (Below.refl _ _).alloc (Nat.le_refl _) _
    have hR7:=hR.below hb7
    have r0:W7.cell? ⟨w6.heap.size,0,none⟩=some (.slice (some ⟨gu,0,none⟩) ls.length cu):=by rw [hW7];simp
    have r1:W7.cell? ⟨w6.heap.size,1,none⟩=some (.map (some mb)):=by rw [hW7];simp
    have hb57:Below W5.heap.size W5 W7:=hb6.trans (hb7.mono hb6.size)
    have hx7:W7.cell? ⟨w.heap.size,0,none⟩=some (.string x):=below_cell hb57 HX5.out
    have hsum:=Sum_any (B:=0) (rv:=.agg #[.slice (some ⟨gu,0,none⟩) ls.length cu,.map (some mb)]) (W:=W7) (M:=M) (ls:=ls) ⟨_,mb,nn,D,V,rfl,Nat.zero_le _,fun _ _ _=>Nat.zero_le _,(⟨hR7.map,hR7.no,hR7.yes,hR7.lay,own_below hR7.own (Below.refl _ _) (Nat.zero_le _)⟩:RunRes 0 W7 mb nn D V M _ ls)⟩ x hxs hok (Nat.le_refl _)
    have hx6:w6.cell? ⟨w.heap.size,0,none⟩=some (.string x):=below_cell hb6 HX5.out
    have hne6:w.heap.size ≠ w6.heap.size:=by have:=hb6.size;have:=HB5.out.size;omega
    have hlt6:w.heap.size < w6.heap.size:=by have:=hb6.size;have:=HB5.out.size;omega
    have hs7:W7.heap.size=w6.heap.size + 1:=by rw [hW7];simp
    have hb67:=hb7
    have hw56:=hb6.size
    have HC8:∀ w8:World,Below W7.heap.size W7 w8→∀ p v,w6.cell? p=some v→w8.cell? p=some v:=fun w8 hb p v hp=>below_cell hb (below_cell hb67 hp)
    have HC9:∀ w8:World,Below W7.heap.size W7 w8→w8.cell? ⟨w6.heap.size,0,none⟩=some (.slice (some ⟨gu,0,none⟩) ls.length cu):=fun w8 hb=>below_cell hb r0
    have HE6:=hidE (And.intro (below_cell hb6 HEC.out.1) (And.intro (below_cell hb6 HEC.out.2.1) (And.intro (below_cell hb6 HEC.out.2.2.1) (And.intro (below_cell hb6 HEC.out.2.2.2.1) (And.intro (below_cell hb6 HEC.out.2.2.2.2.1) (And.intro (below_cell hb6 HEC.out.2.2.2.2.2.1) (below_cell hb6 HEC.out.2.2.2.2.2.2)))))))
    have HL6:=hidE (And.intro l0 (And.intro l1 (And.intro l2 (And.intro l3 l4))))
    have HC8:=hidE HC8
    have HC9:=hidE HC9
    have HB57:=hidE hb57
    have HW7:=hidE hW7
    have HLS:=hidE hls
    have HMM:=hidE hM
    have HLN:=hidE hln
    have HSUM:=hidE hsum
    have HS7:=hidE hs7
    clear hb6 hb7 hR hR7 hb57 hb67 hW7 hls hM hok hmb hVb r0 r1 hx7 hsum hs7 l0 l1 l2 l3 l4 hln hll
    go_wp2_with fail
    rw [← HW7.out]
    refine HSUM.out.mono ?_
    rintro r w8 ⟨rfl,hb8⟩
    have e0:=HC8.out w8 hb8 _ _ HE6.out.1
    have e1:=HC8.out w8 hb8 _ _ HE6.out.2.1
    have e2:=HC8.out w8 hb8 _ _ HE6.out.2.2.1
    have e3:=HC8.out w8 hb8 _ _ HE6.out.2.2.2.1
    have e4:=HC8.out w8 hb8 _ _ HE6.out.2.2.2.2.1
    have e5:=HC8.out w8 hb8 _ _ HE6.out.2.2.2.2.2.1
    have e6:=HC8.out w8 hb8 _ _ HE6.out.2.2.2.2.2.2
    have l0:=HC8.out w8 hb8 _ _ HL6.out.1
    have l1:=HC8.out w8 hb8 _ _ HL6.out.2.1
    have l2:=HC8.out w8 hb8 _ _ HL6.out.2.2.1
    have l3:=HC8.out w8 hb8 _ _ HL6.out.2.2.2.1
    have l4:=HC8.out w8 hb8 _ _ HL6.out.2.2.2.2
    have r0:=HC9.out w8 hb8
    have hB8:Below w1.heap.size w1 w8:=HB5.out.trans ((HB57.out.trans (hb8.mono HB57.out.size)).mono HB5.out.size)
    have hown:w8.ownsRow w1.heap.size 182 14 (.slice ad3 n3 cp3) k ((List.range k).flatMap (movC L x)):=by
     have hw8:Below wr.heap.size wr w8:=by
      have h1:Below wr.heap.size wr W5:=by rw [HW5.out];exact (Below.refl _ _).alloc (Nat.le_refl _) _
      exact h1.trans ((HB57.out.trans (hb8.mono HB57.out.size)).mono h1.size)
     exact own_below HO.out hw8 (Nat.le_refl _)
    have HB8:=hidE hB8
    have hs8:=hB8.size
    clear HSUM HC8 HC9 HE6 HL6 hB8 hb8 hx6
    have hkl2:(k:Int) < ls.length:=by omega
    go_wp2_with fail
    refine wp_region_turn [(.pure,0),(.read,1),(.pure,2),(.read,3),(.pure,4),(.pure,5),(.read,6),(.pure,7),(.pure,8),(.pure,9),(.make,10),(.turn,11),(.pure,12)] (by kernel_rfl) (by kernel_rfl) ?_
    obtain ⟨W9,hW9⟩:∃ W,W=w8.drew:=⟨_,rfl⟩
    rw [← hW9]
    have hb9:Below w8.heap.size w8 W9:=by rw [hW9];exact below_drew _
    have hU:=up_ne
    have hA:=anyW_ne
    have f0:=fun n:Up W9=>n.cell (below_cell hb9 e0)
    have f1:=fun n:Up W9=>n.cell (below_cell hb9 e1)
    have f2:=fun n:Up W9=>n.cell (below_cell hb9 e2)
    have f3:=fun n:Up W9=>n.cell (below_cell hb9 e3)
    have f4:=fun n:Up W9=>n.cell (below_cell hb9 e4)
    have f5:=fun n:Up W9=>n.cell (below_cell hb9 e5)
    have f6:=fun n:Up W9=>n.cell (below_cell hb9 e6)
    have m0:=fun n:Up W9=>n.cell (below_cell hb9 l0)
    have m1:=fun n:Up W9=>n.cell (below_cell hb9 l1)
    have m2:=fun n:Up W9=>n.cell (below_cell hb9 l2)
    have m3:=fun n:Up W9=>n.cell (below_cell hb9 l3)
    have m4:=fun n:Up W9=>n.cell (below_cell hb9 l4)
    have q0:=fun n:Up W9=>n.cell (below_cell hb9 r0)
    have hown9:=own_below hown hb9 (Nat.le_refl _)
    have HB9:Hid (Below w1.heap.size w1 W9):=HB8.out.trans (hb9.mono hs8)
    have hs9:=HB9.out.size
    clear hW9 hb9 e0 e1 e2 e3 e4 e5 e6 l0 l1 l2 l3 l4 r0 hown
    repeat (first | refine turn_p rfl ?_ | refine turn_q rfl ?_);go_big_quiet_step (fail);refine wpQuiet_nil ?_
    refine turn_n rfl ?_
    go_wp2_with fail
    refine ⟨rfl,(Below.refl _ _).alloc (Nat.le_refl _) _,?_⟩
    clear f0 f1 f2 f3 f4 f5 f6 m0 m1 m2 m3 m4 q0
    refine turn_t rfl ?_
    refine wpList_append_new _ rfl _ _ 177 rfl w1.heap.size 182 i0 movZ 14 120 Tryz.underlying177 hi hz0 hz1 hz2 rfl (by decide) (.slice ad3 n3 cp3) _ _ rfl (hown9.alloc _) ⟨W9.heap.size,0,none⟩ 1 1 (evC ev ++ linC ln ++ [.int .i64 (sumQ (M x).ys),.int .i64 (sumV (M x).ys)]) rfl rfl ?d1 ?d2 ?d3 ?d4 ?d5 (by omega) ?_
    case d1=>exact cells_of_list rfl
    case d2=>
     intro u hu
     simp only [List.mem_append,List.mem_cons,List.not_mem_nil,or_false] at hu
     rcases hu with (hu | hu) | rfl | rfl
     ·exact evC_one _ u hu
     ·exact linC_one _ u hu
     ·rfl
     ·rfl
    case d3=>unfold maxLen;omega
    case d4=>omega
    case d5=>first | omega | (simp;omega)
    intro v' w10 hown10 hg10 _
    obtain ⟨ad5,nn5,cp5,hv5⟩:=own_lenK hown10
    subst hv5
    have HB10:Hid (Below w1.heap.size w1 w10):=by
     have b1:Below w1.heap.size w1 (W9.alloc (.cells (evC ev ++ linC ln ++ [Value.int .i64 (sumQ (M x).ys),Value.int .i64 (sumV (M x).ys)]).toArray 182)):=HB9.out.alloc hs9 _
     exact b1.grown hg10 b1.size (fun j hj=>(hown9.lt j hj).1)
    have HMC:Hid (movC L x k=evC ev ++ linC ln ++ [.int .i64 (sumQ (M x).ys),.int .i64 (sumV (M x).ys)]):=by
     show _=_
     unfold movC
     rw [← HT.out,← HMM.out,← HLS.out,List.getElem?_eq_getElem hlt,List.getElem?_eq_getElem hkl,← HE.out,← HLN.out]
     rfl
    have HO10:Hid (w10.ownsRow w1.heap.size 182 14 (.slice ad5 nn5 cp5) (k + 1) ((List.range (k + 1)).flatMap (movC L x))):=by
     show w10.ownsRow _ _ _ _ _ _
     rw [List.range_succ,List.flatMap_append]
     simp only [List.flatMap_cons,List.flatMap_nil,List.append_nil]
     rw [HMC.out]
     exact hown10
    clear hown10 hg10 hown9
    go_wp2_with fail
    refine ⟨rfl,?_⟩
    repeat (first | refine turn_p rfl ?_ | refine turn_q rfl ?_);go_big_quiet_step (fail);refine wpQuiet_nil ?_
    refine turn_nil ?_
    go_wp2
    go_roundw
    case rel=>exact ⟨k + 1,by omega,by go_num,HO10,HB10⟩
    case measure=>simp [intOf];omega
  ·have hk2:k=L.length:=by omega
   subst hk2
   obtain ⟨ad3,n3,cp3,hv3⟩:=own_lenK HO.out
   subst hv3
   have HO5:Hid (wr.ownsRow w.heap.size 182 14 (.slice ad3 n3 cp3) L.length ((List.range L.length).flatMap (movC L x))):=own_below HO.out (Below.refl _ _) hs1
   have HB5:Hid (Below w.heap.size w wr):=HB1.out.trans (HBW.out.mono hs1)
   go_wp2
   go_ret
   exact ⟨_,rfl,HO5.out,HB5.out⟩
end Go.Proofs.YtbleojodidbhiaaGreatDoor
