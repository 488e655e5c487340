/-  -/
import Derived.Test.YtbleojodidbhiaaGreatDoorBnP
import Derived.BigRegion
namespace Go.Proofs.YtbleojodidbhiaaGreatDoor
open Go.RowKit
def wrB (b:Bk) (id:Int) (e:Ev):Bk:={ b with vs:=b.vs ++ [⟨{ e with id:=id },b.n,0⟩] }
set_option maxRecDepth 20000 in
set_option maxHeartbeats 4000000 in
theorem write_any {B pb:Nat} {sv:Value} {b:Bk} {w:World} (h:BookAt w B pb sv b) (hl:b.vs.length≤1000000) (id:Int) (e:Ev) :
  Calls Tryz.prog 161 #[.pointer (some ⟨pb,0,none⟩),.int .i64 id,evV e] w fun r w'=>r = .returned (.tuple #[])∧∃ sv',BookAt w' B pb sv' (wrB b id e)∧TurnI 0 3 w w' pb sv∧Fresh w sv sv':=by
 obtain ⟨i0,hi,hz0,hz1,hz2⟩:=info_parts Tryz.infoVr
 obtain ⟨id0,item,kind,qty,price,ofI,day⟩:=e
 unfold evV
 simp only
 have hU:=up_ne
 have hA:=anyW_ne
 go_enter Tryz.func161,Tryz.ntmps161
 go_wp2_with fail
 refine wp_region_turn [(.pure,0),(.pure,1),(.pure,2),(.pure,3),(.read,4),(.read,5),(.pure,6),(.pure,7),(.pure,8),(.read,9),(.pure,10),(.make,11),(.turn,12),(.pure,13),(.pure,14),(.turn,15)] (by kernel_rfl) (by kernel_rfl) ?_
 obtain ⟨W0,hW⟩:∃ W,W=(w.alloc (.cells #[.int .i64 id,.string item,.int .i64 kind,.int .i64 qty,.int .i64 price,.int .i64 ofI,.int .i64 day] 93)).drew:=⟨_,rfl⟩
 rw [← hW]
 have hE:EvAt W0 w.heap.size ⟨id,item,kind,qty,price,ofI,day⟩:=by
  rw [hW];constructor <;> simp
 have hB0:Below w.heap.size w W0:=by rw [hW];exact ((Below.refl _ _).alloc (Nat.le_refl _) _).trans ((below_drew _).mono (by simp))
 have HB:=h.below hB0
 have hb2:b.vs.length≤1000000:=hl
 clear hW
 have f0:=fun n:Up W0=>(hE.up n).c0
 have f1:=fun n:Up W0=>(hE.up n).c1
 have f2:=fun n:Up W0=>(hE.up n).c2
 have f3:=fun n:Up W0=>(hE.up n).c3
 have f4:=fun n:Up W0=>(hE.up n).c4
 have f5:=fun n:Up W0=>(hE.up n).c5
 have f6:=fun n:Up W0=>(hE.up n).c6
 have g0:=fun n:Up W0=>n.cell HB.c0
 have g1:=fun n:Up W0=>n.cell HB.c1
 repeat (first | refine turn_p rfl ?_ | refine turn_q rfl ?_);go_big_quiet_step (fail);refine wpQuiet_nil ?_
 refine turn_n rfl ?_
 go_wp2_with fail
 refine ⟨rfl,(Below.refl _ _).alloc (Nat.le_refl _) _,?_⟩
 clear f0 f1 f2 f3 f4 f5 f6 g0 g1
 refine turn_t rfl ?_
 refine wpList_append_new _ rfl _ _ 29 rfl B 95 i0 vrZ 9 80 Tryz.underlying29 hi hz0 hz1 hz2 rfl (by decide) sv _ _ rfl (HB.own.alloc _) ⟨W0.heap.size,0,none⟩ 1 1 (vrC ⟨⟨id,item,kind,qty,price,ofI,day⟩,b.n,0⟩) rfl rfl ?d1 ?d2 ?d3 ?d4 ?d5 (by decide) ?_
 case d1=>exact cells_of_list rfl
 case d2=>exact vrC_one _
 case d3=>unfold maxLen;omega
 case d4=>omega
 case d5=>have:=HB.ge;have:=HB.lt;simp;omega
 intro v' w2 hown2 hgr hfr
 obtain ⟨W1,hW1⟩:∃ W,W=W0.alloc (.cells (vrC ⟨⟨id,item,kind,qty,price,ofI,day⟩,b.n,0⟩).toArray 95):=⟨_,rfl⟩
 have hB1:Below w.heap.size w W1:=by rw [hW1];exact hB0.alloc hB0.size _
 have HB1:=h.below hB1
 have hgr':W1.grownBy w2 sv.ownBlock:=by rw [hW1];exact hgr
 have e2:w2.heap[pb]?=W1.heap[pb]?:=hgr'.block pb HB1.lt (fun e=>h.ne e.symm)
 have k0:w2.cell? ⟨pb,0,none⟩=some sv:=(World.cell?_of_block (a:=⟨pb,0,none⟩) e2).trans HB1.c0
 have k1:w2.cell? ⟨pb,1,none⟩=some (.int .i64 b.n):=(World.cell?_of_block (a:=⟨pb,1,none⟩) e2).trans HB1.c1
 have k2:w2.cell? ⟨pb,2,none⟩=some (.int .i64 b.g):=(World.cell?_of_block (a:=⟨pb,2,none⟩) e2).trans HB1.c2
 have z0:w2.frozen? ⟨pb,0,none⟩=false:=(World.frozen?_of_block (a:=⟨pb,0,none⟩) e2).trans HB1.f0
 have z1:w2.frozen? ⟨pb,1,none⟩=false:=(World.frozen?_of_block (a:=⟨pb,1,none⟩) e2).trans HB1.f1
 have z2:w2.frozen? ⟨pb,2,none⟩=false:=(World.frozen?_of_block (a:=⟨pb,2,none⟩) e2).trans HB1.f2
 have HO:Hid (w2.ownsRow B 95 9 v' (b.vs.length + 1) (b.vs.flatMap vrC ++ vrC ⟨⟨id,item,kind,qty,price,ofI,day⟩,b.n,0⟩)):=hown2
 have hg2:W1.heap.size≤w2.heap.size:=hgr'.size
 have hfv:Fresh w sv v':=hfr.grow (by have:=hB0.size;simp;omega)
 clear hown2 hgr hfr hW1
 obtain ⟨g2,cap2,hv2,hg2B,hg2l,_⟩:∃ g cap,v' = .slice (some ⟨g,0,none⟩) (b.vs.length + 1) cap∧B≤g∧g < w2.heap.size∧True:=by
  rcases own_form HO.out with ⟨_,hn,_⟩ | ⟨g,cap,hv,h1,h2,_⟩
  ·omega
  ·exact ⟨g,cap,hv,h1,h2,trivial⟩
 subst hv2
 go_wp2_with fail
 refine ⟨rfl,?_⟩
 repeat (first | refine turn_p rfl ?_ | refine turn_q rfl ?_);go_big_quiet_step (fail);refine wpQuiet_nil ?_
 refine turn_t rfl ?_
 go_wp2_with fail
 refine ⟨rfl,?_⟩
 refine turn_nil ?_
 have hne:Value.ownBlock (.slice (some ⟨g2,0,none⟩) (b.vs.length + 1) cap2) ≠ some pb:=fun e=>by
  rcases hfv pb e with h1 | h1
  ·exact h.ne h1
  ·have:=h.lt;omega
 have hfin:=BookAt.put0 (b:=b) (vs:=b.vs ++ [⟨⟨id,item,kind,qty,price,ofI,day⟩,b.n,0⟩]) k0 k1 k2 z0 z1 z2 (by simpa using HO.out) hne h.ge
 have htur:TurnI 0 3 w (w2.setCell ⟨pb,0,none⟩ (.slice (some ⟨g2,0,none⟩) (b.vs.length + 1) cap2)) pb sv:=
  ((TurnI.of_below hB1).trans (grown_turnI hgr') (Fresh.refl _ _)).trans (turnI_set _ _ _ _ _) (Fresh.refl _ _)
 go_wp2
 go_end0
 exact ⟨rfl,_,hfin,htur,hfv⟩
def setTo:List Vr→Nat→Int→List Vr
 | [],_,_=>[]
 | v :: l,0,t=>⟨v.ev,v.fr,t⟩ :: l
 | v :: l,k + 1,t=>v :: setTo l k t
theorem setTo_is:∀ (l:List Vr) (k:Nat) (t:Int) (h:k < l.length),setTo l k t=l.set k ⟨l[k].ev,l[k].fr,t⟩
 | [],k,_,h=>absurd h (Nat.not_lt_zero _)
 | v :: l,0,t,_=>rfl
 | v :: l,k + 1,t,h=>by simp only [setTo,List.set_cons_succ,List.getElem_cons_succ];rw [setTo_is l k t (by simpa using h)]
theorem setTo_len:∀ (l:List Vr) (k:Nat) (t:Int),(setTo l k t).length=l.length
 | [],_,_=>rfl
 | v :: l,0,t=>rfl
 | v :: l,k + 1,t=>by simp only [setTo,List.length_cons,setTo_len l k t]
def endB (b:Bk) (k:Nat):Bk:=⟨setTo b.vs k (b.n + 1),b.n + 1,b.g⟩
theorem BookAt.row {w:World} {B pb g cap:Nat} {b:Bk} (h:BookAt w B pb (.slice (some ⟨g,0,none⟩) b.vs.length cap) b) (k:Nat) (hk:k < b.vs.length) (t:Int) :
  BookAt (w.setCell ⟨g,k * 9 + 8,none⟩ (.int .i64 t)) B pb (.slice (some ⟨g,0,none⟩) b.vs.length cap) ⟨setTo b.vs k t,b.n,b.g⟩:=by
 have hne:g ≠ pb:=fun e=>h.ne (by simp [Value.ownBlock,e])
 have e:((setTo b.vs k t).flatMap vrC)=(b.vs.flatMap vrC).set (k * 9 + 8) (.int .i64 t):=by
  rw [setTo_is _ _ _ hk]
  exact flatMap_set vrC 9 vrC_len 8 _ (by decide) _ _ k hk rfl
 have c (o:Nat):(⟨g,k * 9 + 8,none⟩:Addr) ≠ ⟨pb,o,none⟩:=fun e=>hne (by injection e)
 refine ⟨(set_other (c 0)).trans h.c0,(set_other (c 1)).trans h.c1,(set_other (c 2)).trans h.c2,set_frz.trans h.f0,set_frz.trans h.f1,set_frz.trans h.f2,?_,h.ne,h.ge⟩
 show World.ownsRow _ _ _ _ _ (setTo b.vs k t).length ((setTo b.vs k t).flatMap vrC)
 rw [e,setTo_len]
 exact own_set h.own _ _
set_option maxRecDepth 20000 in
set_option maxHeartbeats 4000000 in
theorem void_no {B pb:Nat} {sv:Value} {b:Bk} {w:World} (h:BookAt w B pb sv b) (hl:b.vs.length≤1000000) (id:Int) (hk:kIx b.vs id = -1) :
  Calls Tryz.prog 109 #[.pointer (some ⟨pb,0,none⟩),.int .i64 id] w fun r w'=>r = .returned (errV 7)∧Below w.heap.size w w':=by
 have hcon:=known_any h hl id
 rw [hk] at hcon
 clear h
 go_enter Tryz.func109,Tryz.ntmps109
 go_wp2_with fail
 refine hcon.mono ?_
 rintro e w' ⟨rfl,hb⟩
 go_wp2
 go_ret
 exact ⟨rfl,hb⟩
set_option maxRecDepth 20000 in
set_option maxHeartbeats 4000000 in
theorem void_yes {B pb g cap:Nat} {b:Bk} {w:World} (h:BookAt w B pb (.slice (some ⟨g,0,none⟩) b.vs.length cap) b) (hl:b.vs.length≤1000000) (h0:0≤b.n) (h1:b.n≤1000000) (id:Int) (k:Nat) (hkl:k < b.vs.length) (hk:kIx b.vs id=k) :
  Calls Tryz.prog 109 #[.pointer (some ⟨pb,0,none⟩),.int .i64 id] w fun r w'=>r = .returned (errV 0)∧BookAt w' B pb (.slice (some ⟨g,0,none⟩) b.vs.length cap) (endB b k)∧TurnI 0 3 w w' pb (.slice (some ⟨g,0,none⟩) b.vs.length cap):=by
 have hcon:=known_any h hl id
 rw [hk] at hcon
 go_enter Tryz.func109,Tryz.ntmps109
 go_wp2_with fail
 refine hcon.mono ?_
 rintro e w1 ⟨rfl,hb⟩
 have H1:=h.below hb
 have c0:=H1.c0
 have c1:=H1.c1
 have f1:=H1.f1
 have hne:g ≠ pb:=fun e=>h.ne (by simp [Value.ownBlock,e])
 have hcell:=(own_cell vrC_len H1.own k 8 hkl (by decide))
 have r8:=hcell.1
 have rf:=hcell.2
 simp only [vrC,List.getElem?_cons_zero,List.getElem?_cons_succ] at r8
 clear hcell hcon
 have hkz:(k:Int) < (b.vs.length:Int):=by omega
 go_wp2_with fail
 refine wp_region_turn [(.pure,0),(.pure,1),(.pure,2),(.read,3),(.pure,4),(.pure,5),(.pure,6),(.pure,7),(.read,8),(.pure,9),(.pure,10),(.turn,11)] (by kernel_rfl) (by kernel_rfl) ?_
 obtain ⟨W1,hW⟩:∃ W,W=(w1.setCell ⟨pb,1,none⟩ (.int .i64 (b.n + 1))).drew:=⟨_,rfl⟩
 rw [← hW]
 have H2:BookAt W1 B pb (.slice (some ⟨g,0,none⟩) b.vs.length cap) ⟨b.vs,b.n + 1,b.g⟩:=by
  rw [hW];exact (H1.put1 (b.n + 1)).below (below_drew _)
 have T2:TurnI 0 3 w W1 pb (.slice (some ⟨g,0,none⟩) b.vs.length cap):=by
  rw [hW];exact ((TurnI.of_below hb).trans (turnI_set _ _ _ _ _) (Fresh.refl _ _)).trans (TurnI.of_below (below_drew _)) (Fresh.refl _ _)
 clear hW c0 c1 f1 r8 rf hk
 have hcell:=own_cell vrC_len H2.own k 8 hkl (by decide)
 have r8:=hcell.1
 have rf:=hcell.2
 simp only [vrC,List.getElem?_cons_zero,List.getElem?_cons_succ] at r8
 clear hcell
 have hU:=up_ne
 have hA:=anyW_ne
 have g0:=fun n:Up W1=>n.cell H2.c0
 have g1:=fun n:Up W1=>n.cell H2.c1
 simp only at g0 g1
 repeat (first | refine turn_p rfl ?_ | refine turn_q rfl ?_);go_big_quiet_step (fail);refine wpQuiet_nil ?_
 refine turn_t rfl ?_
 go_wp2_with fail
 refine ⟨rfl,?_⟩
 refine turn_nil ?_
 have hfin:=BookAt.row (b:=⟨b.vs,b.n + 1,b.g⟩) H2 k hkl (b.n + 1)
 have htur:=T2.trans (turnI_row W1 g (k * 9 + 8) pb (.slice (some ⟨g,0,none⟩) b.vs.length cap) (.int .i64 (b.n + 1)) rfl) (Fresh.refl _ _)
 go_wp2
 go_ret
 exact ⟨rfl,hfin,htur⟩
theorem EvAt.set {w:World} {c:Nat} {e:Ev} (h:EvAt w c e) (a:Addr) (v:Value) (hne:a.block ≠ c):EvAt (w.setCell a v) c e:=by
 have o (k:Nat):a ≠ ⟨c,k,none⟩:=fun e=>hne (by rw [e])
 exact ⟨(set_other (o 0)).trans h.c0,(set_other (o 1)).trans h.c1,(set_other (o 2)).trans h.c2,(set_other (o 3)).trans h.c3,(set_other (o 4)).trans h.c4,(set_other (o 5)).trans h.c5,(set_other (o 6)).trans h.c6⟩
def postB (b:Bk) (e:Ev):Bk:=wrB ⟨b.vs,b.n + 1,b.g + 1⟩ (b.g + 1) e
def corrB (b:Bk) (k:Nat) (id:Int) (e:Ev):Bk:=wrB (endB b k) id e
set_option maxRecDepth 20000 in
set_option maxHeartbeats 4000000 in
theorem post_no {B pb:Nat} {sv:Value} {b:Bk} {w:World} (h:BookAt w B pb sv b) (hl:b.vs.length≤1000000) (e:Ev) (he:EvW e) (hno:¬ (Rt e∧b.vs.length < 120)) :
  Calls Tryz.prog 105 #[.pointer (some ⟨pb,0,none⟩),evV e] w fun r w'=>∃ k,TakesE b e k∧k ≠ 0∧r = .returned (.tuple #[.int .i64 0,errV k])∧Below w.heap.size w w':=by
 have hB1:Below w.heap.size w (w.alloc (.cells (evC e).toArray 93)):=(Below.refl _ _).alloc (Nat.le_refl _) _
 have hcon:=takes_any (h.below hB1) hl e he
 have HN:Hid (¬ (Rt e∧b.vs.length < 120)):=hno
 have HT:Hid (∀ k,TakesE b e k→k ≠ 0):=fun k hk h0=>by
  rcases hk with ⟨h1,_⟩ | ⟨h1,_⟩ | ⟨_,h2⟩
  ·omega
  ·omega
  ·exact hno h2
 obtain ⟨id0,item,kind,qty,price,ofI,day⟩:=e
 unfold evV at hcon ⊢
 simp only at hcon ⊢
 clear h hno
 go_enter Tryz.func105,Tryz.ntmps105
 go_wp2_with fail
 refine hcon.mono ?_
 rintro r w1 ⟨k,hk,rfl,hb⟩
 have hk0:=HT.out k hk
 have HK:Hid (TakesE b _ k):=hk
 clear hk hcon
 unfold errV
 rw [if_neg hk0]
 go_wp2
 refine bodyPost_ret (v:=.tuple #[.int .i64 0,.iface 69 (.int .i64 k)]) (by simp [results,Tryz.results105,go_sem]) rfl ⟨k,HK.out,hk0,by rw [errV,if_neg hk0],hB1.trans (hb.mono (by simp))⟩
set_option maxRecDepth 20000 in
set_option maxHeartbeats 4000000 in
theorem post_yes {B pb:Nat} {sv:Value} {b:Bk} {w:World} (h:BookAt w B pb sv b) (h0:0≤b.n) (h1:b.n≤1000000) (g0:0≤b.g) (g1:b.g≤1000000) (e:Ev) (he:EvW e) (hr:Rt e) (hlen:b.vs.length < 120) :
  Calls Tryz.prog 105 #[.pointer (some ⟨pb,0,none⟩),evV e] w fun r w'=>r = .returned (.tuple #[.int .i64 (b.g + 1),errV 0])∧∃ sv',BookAt w' B pb sv' (postB b e)∧TurnI 0 3 w w' pb sv∧Fresh w sv sv':=by
 have hl:b.vs.length≤1000000:=by omega
 have hB1:Below w.heap.size w (w.alloc (.cells (evC e).toArray 93)):=(Below.refl _ _).alloc (Nat.le_refl _) _
 have hcon:=takes_any (h.below hB1) hl e he
 have HT:Hid (∀ k,TakesE b e k→k=0):=fun k hk=>by
  rcases hk with ⟨h1,h2⟩ | ⟨h1,h2,h3⟩ | ⟨h1,h2⟩
  ·exact absurd hr h2
  ·omega
  ·exact h1
 have HE:Hid (EvAt (w.alloc (.cells (evC e).toArray 93)) w.heap.size e):=by unfold Hid evC;constructor <;> simp
 have hw3:=fun (W:World) (B pb:Nat) (sv:Value) (b:Bk) (h:BookAt W B pb sv b) (hl:b.vs.length≤1000000) (id:Int)=>write_any h hl id e
 clear hr
 have HP:Hid (postB b e=wrB ⟨b.vs,b.n + 1,b.g + 1⟩ (b.g + 1) e):=rfl
 rw [HP.out]
 clear HP
 obtain ⟨id0,item,kind,qty,price,ofI,day⟩:=e
 unfold evV at hcon hw3 ⊢
 simp only at hcon hw3 ⊢
 go_enter Tryz.func105,Tryz.ntmps105
 go_wp2_with fail
 refine hcon.mono ?_
 rintro r w1 ⟨k,hk,rfl,hb⟩
 obtain rfl:=HT.out k hk
 have H1:=(h.below hB1).below hb
 have E1:=HE.out.below hb
 have T1:TurnI 0 3 w w1 pb sv:=.of_below (hB1.trans (hb.mono (by simp)))
 have c1:=H1.c1
 have c2:=H1.c2
 have f1:=H1.f1
 have f2:=H1.f2
 clear hk hcon HE HT hB1 hb
 unfold errV
 rw [if_pos rfl]
 go_wp2_with fail
 refine wp_region_turn [(.pure,0),(.pure,1),(.pure,2),(.pure,3),(.read,4),(.read,5),(.turn,6)] (by kernel_rfl) (by kernel_rfl) ?_
 obtain ⟨W1,hW⟩:∃ W,W=((w1.setCell ⟨pb,2,none⟩ (.int .i64 (b.g + 1))).setCell ⟨pb,1,none⟩ (.int .i64 (b.n + 1))).drew:=⟨_,rfl⟩
 rw [← hW]
 have H2:BookAt W1 B pb sv ⟨b.vs,b.n + 1,b.g + 1⟩:=by
  rw [hW];exact ((H1.put2 (b.g + 1)).put1 (b.n + 1)).below (below_drew _)
 have T2:TurnI 0 3 w W1 pb sv:=by
  rw [hW];exact ((T1.trans (turnI_set _ _ _ _ _) (Fresh.refl _ _)).trans (turnI_set _ _ _ _ _) (Fresh.refl _ _)).trans (TurnI.of_below (below_drew _)) (Fresh.refl _ _)
 have hpl:pb ≠ w.heap.size:=by have:=h.lt;omega
 have E2:EvAt W1 w.heap.size ⟨id0,item,kind,qty,price,ofI,day⟩:=by
  rw [hW];exact ((E1.set ⟨pb,2,none⟩ _ hpl).set ⟨pb,1,none⟩ _ hpl).below (below_drew _)
 clear hW c1 c2 f1 f2 H1 E1 T1
 have hU:=up_ne
 have hA:=anyW_ne
 have q2:=fun n:Up W1=>n.cell H2.c2
 have v0:=fun n:Up W1=>(E2.up n).c0
 have v1:=fun n:Up W1=>(E2.up n).c1
 have v2:=fun n:Up W1=>(E2.up n).c2
 have v3:=fun n:Up W1=>(E2.up n).c3
 have v4:=fun n:Up W1=>(E2.up n).c4
 have v5:=fun n:Up W1=>(E2.up n).c5
 have v6:=fun n:Up W1=>(E2.up n).c6
 simp only at q2 v0 v1 v2 v3 v4 v5 v6
 repeat (first | refine turn_p rfl ?_ | refine turn_q rfl ?_);go_big_quiet_step (fail);refine wpQuiet_nil ?_
 clear q2 v0 v1 v2 v3 v4 v5 v6
 have hw4:=hw3 W1 B pb sv ⟨b.vs,b.n + 1,b.g + 1⟩ H2 hl (b.g + 1)
 clear hw3
 refine turn_t rfl ?_
 go_wp2_with fail
 refine hw4.mono ?_
 rintro r w2 ⟨rfl,sv',H3,T3,F3⟩
 have q2:w2.cell? ⟨pb,2,none⟩=some (.int .i64 (b.g + 1)):=H3.c2
 go_wp2_with fail
 refine ⟨rfl,?_⟩
 refine turn_nil ?_
 have T4:=T2.trans T3 (Fresh.refl _ _)
 have F4:=F3.grow T2.size
 go_wp2
 refine bodyPost_ret (v:=.tuple #[.int .i64 (b.g + 1),.nilIface]) (by simp [results,Tryz.results105,go_sem]) rfl ⟨by rw [errV,if_pos rfl],sv',H3,T4,F4⟩
set_option maxRecDepth 20000 in
set_option maxHeartbeats 4000000 in
theorem corr_miss {B pb:Nat} {sv:Value} {b:Bk} {w:World} (h:BookAt w B pb sv b) (hl:b.vs.length≤1000000) (id:Int) (e:Ev) (hk:kIx b.vs id = -1) :
  Calls Tryz.prog 108 #[.pointer (some ⟨pb,0,none⟩),.int .i64 id,evV e] w fun r w'=>r = .returned (errV 7)∧Below w.heap.size w w':=by
 have hB1:Below w.heap.size w (w.alloc (.cells (evC e).toArray 93)):=(Below.refl _ _).alloc (Nat.le_refl _) _
 have hcon:=known_any (h.below hB1) hl id
 rw [hk] at hcon
 obtain ⟨id0,item,kind,qty,price,ofI,day⟩:=e
 unfold evV
 simp only
 clear h
 go_enter Tryz.func108,Tryz.ntmps108
 go_wp2_with fail
 refine hcon.mono ?_
 rintro r w1 ⟨rfl,hb⟩
 go_wp2
 go_ret
 exact ⟨rfl,hB1.trans (hb.mono (by simp))⟩
set_option maxRecDepth 20000 in
set_option maxHeartbeats 4000000 in
theorem corr_no {B pb:Nat} {sv:Value} {b:Bk} {w:World} (h:BookAt w B pb sv b) (hl:b.vs.length≤1000000) (id:Int) (e:Ev) (he:EvW e) (k:Nat) (hk:kIx b.vs id=k) (hno:¬ (Rt e∧b.vs.length < 120)) :
  Calls Tryz.prog 108 #[.pointer (some ⟨pb,0,none⟩),.int .i64 id,evV e] w fun r w'=>∃ c,TakesE b e c∧c ≠ 0∧r = .returned (errV c)∧Below w.heap.size w w':=by
 have hB1:Below w.heap.size w (w.alloc (.cells (evC e).toArray 93)):=(Below.refl _ _).alloc (Nat.le_refl _) _
 have hcon:=known_any (h.below hB1) hl id
 rw [hk] at hcon
 have hcon2:=fun W (hW:BookAt W B pb sv b)=>takes_any hW hl e he
 have HT:Hid (∀ k,TakesE b e k→k ≠ 0):=fun k hk h0=>by
  rcases hk with ⟨h1,_⟩ | ⟨h1,_⟩ | ⟨_,h2⟩
  ·omega
  ·omega
  ·exact hno h2
 have HE:Hid (EvAt (w.alloc (.cells (evC e).toArray 93)) w.heap.size e):=by unfold Hid evC;constructor <;> simp
 clear hno
 obtain ⟨id0,item,kind,qty,price,ofI,day⟩:=e
 unfold evV at hcon2 ⊢
 simp only at hcon2 ⊢
 go_enter Tryz.func108,Tryz.ntmps108
 go_wp2_with fail
 refine hcon.mono ?_
 rintro r w1 ⟨rfl,hb⟩
 have H1:=(h.below hB1).below hb
 have E1:=HE.out.below hb
 have v0:=E1.c0
 have v1:=E1.c1
 have v2:=E1.c2
 have v3:=E1.c3
 have v4:=E1.c4
 have v5:=E1.c5
 have v6:=E1.c6
 simp only at v0 v1 v2 v3 v4 v5 v6
 have hcon3:=hcon2 w1 H1
 clear hcon hcon2 HE
 go_wp2_with fail
 refine hcon3.mono ?_
 rintro r w2 ⟨c,hc,rfl,hb2⟩
 have hc0:=HT.out c hc
 have HK:Hid (TakesE b _ c):=hc
 clear hc
 unfold errV
 rw [if_neg hc0]
 go_wp2
 go_ret
 exact ⟨c,HK.out,hc0,by rw [errV,if_neg hc0];rfl,(hB1.trans (hb.mono (by simp))).trans (hb2.mono (by have:=hb.size;simp at this;omega))⟩
set_option maxRecDepth 20000 in
set_option maxHeartbeats 4000000 in
theorem corr_yes {B pb g cap:Nat} {b:Bk} {w:World} (h:BookAt w B pb (.slice (some ⟨g,0,none⟩) b.vs.length cap) b) (h0:0≤b.n) (h1:b.n≤1000000) (id:Int) (e:Ev) (he:EvW e) (k:Nat) (hkl:k < b.vs.length) (hk:kIx b.vs id=k) (hr:Rt e) (hlen:b.vs.length < 120) :
  Calls Tryz.prog 108 #[.pointer (some ⟨pb,0,none⟩),.int .i64 id,evV e] w fun r w'=>r = .returned (errV 0)∧∃ sv',BookAt w' B pb sv' (corrB b k id e)∧TurnI 0 3 w w' pb (.slice (some ⟨g,0,none⟩) b.vs.length cap)∧Fresh w (.slice (some ⟨g,0,none⟩) b.vs.length cap) sv':=by
 have hl:b.vs.length≤1000000:=by omega
 have hB1:Below w.heap.size w (w.alloc (.cells (evC e).toArray 93)):=(Below.refl _ _).alloc (Nat.le_refl _) _
 have hcon:=known_any (h.below hB1) hl id
 rw [hk] at hcon
 have hcon2:=fun W (hW:BookAt W B pb (.slice (some ⟨g,0,none⟩) b.vs.length cap) b)=>takes_any hW hl e he
 have HT:Hid (∀ k,TakesE b e k→k=0):=fun k hk=>by
  rcases hk with ⟨h1,h2⟩ | ⟨h1,h2,h3⟩ | ⟨h1,h2⟩
  ·exact absurd hr h2
  ·omega
  ·exact h1
 have HE:Hid (EvAt (w.alloc (.cells (evC e).toArray 93)) w.heap.size e):=by unfold Hid evC;constructor <;> simp
 have hw3:=fun (W:World) (sv:Value) (b:Bk) (h:BookAt W B pb sv b) (hl:b.vs.length≤1000000)=>write_any h hl id e
 have HP:Hid (corrB b k id e=wrB ⟨setTo b.vs k (b.n + 1),b.n + 1,b.g⟩ id e):=rfl
 rw [HP.out]
 clear HP hr
 obtain ⟨id0,item,kind,qty,price,ofI,day⟩:=e
 unfold evV at hcon2 hw3 ⊢
 simp only at hcon2 hw3 ⊢
 go_enter Tryz.func108,Tryz.ntmps108
 go_wp2_with fail
 refine hcon.mono ?_
 rintro r w1 ⟨rfl,hb⟩
 have H1:=(h.below hB1).below hb
 have E1:=HE.out.below hb
 have T1:TurnI 0 3 w w1 pb (.slice (some ⟨g,0,none⟩) b.vs.length cap):=.of_below (hB1.trans (hb.mono (by simp)))
 have v0:=E1.c0
 have v1:=E1.c1
 have v2:=E1.c2
 have v3:=E1.c3
 have v4:=E1.c4
 have v5:=E1.c5
 have v6:=E1.c6
 simp only at v0 v1 v2 v3 v4 v5 v6
 have hcon3:=hcon2 w1 H1
 clear hcon hcon2 HE hB1 hb hk
 go_wp2_with fail
 refine hcon3.mono ?_
 rintro r w2 ⟨c,hc,rfl,hb2⟩
 obtain rfl:=HT.out c hc
 have H2:=H1.below hb2
 have E2:=E1.below hb2
 have T2:=T1.trans (.of_below hb2) (Fresh.refl _ _)
 have c1:=H2.c1
 have f1:=H2.f1
 have hkz:(k:Int) < (b.vs.length:Int):=by omega
 clear hc hcon3 HT H1 E1 T1 hb2 v0 v1 v2 v3 v4 v5 v6
 unfold errV
 rw [if_pos rfl]
 go_wp2_with fail
 refine wp_region_turn [(.pure,0),(.pure,1),(.pure,2),(.read,3),(.pure,4),(.pure,5),(.pure,6),(.pure,7),(.read,8),(.pure,9),(.pure,10),(.turn,11)] (by kernel_rfl) (by kernel_rfl) ?_
 obtain ⟨W1,hW⟩:∃ W,W=(w2.setCell ⟨pb,1,none⟩ (.int .i64 (b.n + 1))).drew:=⟨_,rfl⟩
 rw [← hW]
 have H3:BookAt W1 B pb (.slice (some ⟨g,0,none⟩) b.vs.length cap) ⟨b.vs,b.n + 1,b.g⟩:=by
  rw [hW];exact (H2.put1 (b.n + 1)).below (below_drew _)
 have T3:TurnI 0 3 w W1 pb (.slice (some ⟨g,0,none⟩) b.vs.length cap):=by
  rw [hW];exact (T2.trans (turnI_set _ _ _ _ _) (Fresh.refl _ _)).trans (TurnI.of_below (below_drew _)) (Fresh.refl _ _)
 have hpl:pb ≠ w.heap.size:=by have:=h.lt;omega
 have hgl:g ≠ w.heap.size:=by have:=(h.block g rfl).2;omega
 have E3:EvAt W1 w.heap.size ⟨id0,item,kind,qty,price,ofI,day⟩:=by
  rw [hW];exact (E2.set ⟨pb,1,none⟩ _ hpl).below (below_drew _)
 clear hW c1 f1 H2 E2 T2
 have hcell:=own_cell vrC_len H3.own k 8 hkl (by decide)
 have r8:=hcell.1
 have rf:=hcell.2
 simp only [vrC,List.getElem?_cons_zero,List.getElem?_cons_succ] at r8
 clear hcell
 have hU:=up_ne
 have hA:=anyW_ne
 have g0:=fun n:Up W1=>n.cell H3.c0
 have g1:=fun n:Up W1=>n.cell H3.c1
 simp only at g0 g1
 repeat (first | refine turn_p rfl ?_ | refine turn_q rfl ?_);go_big_quiet_step (fail);refine wpQuiet_nil ?_
 refine turn_t rfl ?_
 go_wp2_with fail
 refine ⟨rfl,?_⟩
 refine turn_nil ?_
 have H4:=BookAt.row (b:=⟨b.vs,b.n + 1,b.g⟩) H3 k hkl (b.n + 1)
 have T4:=T3.trans (turnI_row W1 g (k * 9 + 8) pb (.slice (some ⟨g,0,none⟩) b.vs.length cap) (.int .i64 (b.n + 1)) rfl) (Fresh.refl _ _)
 have E4:=E3.set ⟨g,k * 9 + 8,none⟩ (.int .i64 (b.n + 1)) hgl
 simp only at H4
 clear g0 g1 r8 rf
 obtain ⟨W2,hW2⟩:∃ W,W=W1.setCell ⟨g,k * 9 + 8,none⟩ (.int .i64 (b.n + 1)):=⟨_,rfl⟩
 rw [← hW2] at H4 T4 E4 ⊢
 clear hW2
 have v0:=E4.c0
 have v1:=E4.c1
 have v2:=E4.c2
 have v3:=E4.c3
 have v4:=E4.c4
 have v5:=E4.c5
 have v6:=E4.c6
 simp only at v0 v1 v2 v3 v4 v5 v6
 have hw4:=hw3 W2 _ _ H4 (by simp only [setTo_len];exact hl)
 clear hw3
 go_wp2_with fail
 refine hw4.mono ?_
 rintro r w5 ⟨rfl,sv',H5,T5,F5⟩
 have T6:=T4.trans T5 (Fresh.refl _ _)
 have F6:=F5.grow T4.size
 go_wp2
 go_ret
 exact ⟨by rw [errV,if_pos rfl];rfl,sv',H5,T6,F6⟩
structure Ac where
 what:Int
 id:Int
 e:Ev
 deriving Inhabited
def acC (x:Ac):List Value:=[.int .i64 x.what,.int .i64 x.id,.int .i64 x.e.id,.string x.e.item,.int .i64 x.e.kind,.int .i64 x.e.qty,.int .i64 x.e.price,.int .i64 x.e.ofI,.int .i64 x.e.day]
def acV (x:Ac):Value:=.agg #[.int .i64 x.what,.int .i64 x.id,.int .i64 x.e.id,.string x.e.item,.int .i64 x.e.kind,.int .i64 x.e.qty,.int .i64 x.e.price,.int .i64 x.e.ofI,.int .i64 x.e.day]
theorem acC_len (x:Ac):(acC x).length=9:=rfl
def StepA (b:Bk) (x:Ac) (b':Bk):Prop:=
 (x.what=0∧Rt x.e∧b.vs.length < 120∧b'=postB b x.e)∨(x.what=1∧Rt x.e∧b.vs.length < 120∧∃ k:Nat,k < b.vs.length∧kIx b.vs x.id=k∧b'=corrB b k x.id x.e) ∨
 (x.what=2∧∃ k:Nat,k < b.vs.length∧kIx b.vs x.id=k∧b'=endB b k)
def DoesA (b:Bk) (x:Ac) (c:Int) (b':Bk):Prop:=(c ≠ 0∧b'=b)∨(c=0∧StepA b x b')
structure BkOk (b:Bk):Prop where
 len:b.vs.length≤120
 n0:0≤b.n
 n1:b.n≤1000000
 g0:0≤b.g
 g1:b.g≤1000000
theorem kIx_form (vs:List Vr) (id:Int):kIx vs id = -1∨∃ k:Nat,k < vs.length∧kIx vs id=k:=by
 rcases kIx_spec vs id with ⟨h,_⟩ | ⟨k,hk,h,_⟩
 ·exact Or.inl h
 ·exact Or.inr ⟨k,hk,h⟩
theorem BookAt.some {w:World} {B pb:Nat} {sv:Value} {b:Bk} (h:BookAt w B pb sv b) (hn:0 < b.vs.length):∃ g cap,sv = .slice (some ⟨g,0,none⟩) b.vs.length cap:=by
 rcases own_form h.own with ⟨_,h0,_⟩ | ⟨g,cap,e,_⟩
 ·omega
 ·exact ⟨g,cap,e⟩
theorem post_does {B pb:Nat} {sv:Value} {b:Bk} {w:World} (h:BookAt w B pb sv b) (ho:BkOk b) (e:Ev) (he:EvW e) :
  Calls Tryz.prog 105 #[.pointer (some ⟨pb,0,none⟩),evV e] w fun r w'=>∃ (m c:Int) (b':Bk) (sv':Value),r = .returned (.tuple #[.int .i64 m,errV c])∧((m=0∧c ≠ 0∧TakesE b e c∧b'=b)∨(m=b.g + 1∧c=0∧Rt e∧b.vs.length < 120∧b'=postB b e))∧BookAt w' B pb sv' b'∧TurnI 0 3 w w' pb sv∧Fresh w sv sv':=by
 by_cases hy:Rt e∧b.vs.length < 120
 ·refine (post_yes h ho.n0 ho.n1 ho.g0 ho.g1 e he hy.1 hy.2).mono ?_
  rintro r w' ⟨rfl,sv',h1,h2,h3⟩
  exact ⟨_,0,_,sv',rfl,Or.inr ⟨rfl,rfl,hy.1,hy.2,rfl⟩,h1,h2,h3⟩
 ·refine (post_no h (by have:=ho.len;omega) e he hy).mono ?_
  rintro r w' ⟨k,hk,hk0,rfl,hb⟩
  exact ⟨0,k,b,sv,rfl,Or.inl ⟨rfl,hk0,hk,rfl⟩,h.below hb,.of_below hb,Fresh.refl _ _⟩
theorem corr_does {B pb:Nat} {sv:Value} {b:Bk} {w:World} (h:BookAt w B pb sv b) (ho:BkOk b) (id:Int) (e:Ev) (he:EvW e) :
  Calls Tryz.prog 108 #[.pointer (some ⟨pb,0,none⟩),.int .i64 id,evV e] w fun r w'=>∃ (c:Int) (b':Bk) (sv':Value),r = .returned (errV c) ∧
   ((c=7∧kIx b.vs id = -1∧b'=b)∨(c ≠ 0∧TakesE b e c∧(∃ k:Nat,kIx b.vs id=k)∧b'=b)∨(c=0∧Rt e∧b.vs.length < 120∧∃ k:Nat,k < b.vs.length∧kIx b.vs id=k∧b'=corrB b k id e))∧BookAt w' B pb sv' b'∧TurnI 0 3 w w' pb sv∧Fresh w sv sv':=by
 have hl:b.vs.length≤1000000:=by have:=ho.len;omega
 rcases kIx_form b.vs id with hk | ⟨k,hkl,hk⟩
 ·refine (corr_miss h hl id e hk).mono ?_
  rintro r w' ⟨rfl,hb⟩
  exact ⟨7,b,sv,rfl,Or.inl ⟨rfl,hk,rfl⟩,h.below hb,.of_below hb,Fresh.refl _ _⟩
 ·by_cases hy:Rt e∧b.vs.length < 120
  ·obtain ⟨g,cap,hsv⟩:=h.some (by omega)
   subst hsv
   refine (corr_yes h ho.n0 ho.n1 id e he k hkl hk hy.1 hy.2).mono ?_
   rintro r w' ⟨rfl,sv',h1,h2,h3⟩
   exact ⟨0,_,sv',rfl,Or.inr (Or.inr ⟨rfl,hy.1,hy.2,k,hkl,hk,rfl⟩),h1,h2,h3⟩
  ·refine (corr_no h hl id e he k hk hy).mono ?_
   rintro r w' ⟨c,hc,hc0,rfl,hb⟩
   exact ⟨c,b,sv,rfl,Or.inr (Or.inl ⟨hc0,hc,⟨k,hk⟩,rfl⟩),h.below hb,.of_below hb,Fresh.refl _ _⟩
theorem void_does {B pb:Nat} {sv:Value} {b:Bk} {w:World} (h:BookAt w B pb sv b) (ho:BkOk b) (id:Int) :
  Calls Tryz.prog 109 #[.pointer (some ⟨pb,0,none⟩),.int .i64 id] w fun r w'=>∃ (c:Int) (b':Bk) (sv':Value),r = .returned (errV c) ∧
   ((c=7∧kIx b.vs id = -1∧b'=b)∨(c=0∧∃ k:Nat,k < b.vs.length∧kIx b.vs id=k∧b'=endB b k))∧BookAt w' B pb sv' b'∧TurnI 0 3 w w' pb sv∧Fresh w sv sv':=by
 have hl:b.vs.length≤1000000:=by have:=ho.len;omega
 rcases kIx_form b.vs id with hk | ⟨k,hkl,hk⟩
 ·refine (void_no h hl id hk).mono ?_
  rintro r w' ⟨rfl,hb⟩
  exact ⟨7,b,sv,rfl,Or.inl ⟨rfl,hk,rfl⟩,h.below hb,.of_below hb,Fresh.refl _ _⟩
 ·obtain ⟨g,cap,hsv⟩:=h.some (by omega)
  subst hsv
  refine (void_yes h hl ho.n0 ho.n1 id k hkl hk).mono ?_
  rintro r w' ⟨rfl,h1,h2⟩
  exact ⟨0,_,_,rfl,Or.inr ⟨rfl,k,hkl,hk,rfl⟩,h1,h2,Fresh.refl _ _⟩
end Go.Proofs.YtbleojodidbhiaaGreatDoor
