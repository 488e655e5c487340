/-  -/
import Derived.Test.YtbleojodidbhiaaGreatDoorCoTake
import Derived.Shelf.Abstract
import Derived.Shelf.SlSortCmp.InsertionK
import Derived.Test.YtbleojodidbhiaaGreatDoorBnB
namespace Go.Proofs.YtbleojodidbhiaaGreatDoor
open Go.RowKit Go.Shelf
def Found {α:Type} (p:α→Bool) (l:List α) (r:Int):Prop:=(r = -1∧∀ y ∈ l,p y=false)∨∃ (k:Nat) (h:k < l.length),r=k∧p l[k]=true∧∀ j (hj:j < l.length),j < k→p l[j]=false
set_option maxHeartbeats 1000000 in
theorem idx_lay (ys:List Lay) (v:Value) (w:World) (h:LayAt w v ys) (hl:ys.length≤1000000) (f:Nat) (lb:Array Value) (p:Lay→Bool) (ef:∀ args w,(callFunc f args).run Tryz.prog w = .ok (.enter f args) w)
  (hf:∀ (y:Lay) (W:World),Below w.heap.size w W→Calls Tryz.prog f (#[.agg #[.int .i64 y.id,.int .i64 y.qty,.int .i64 y.val]] ++ lb) W fun e w'=>e = .returned (.bool (p y))∧Below W.heap.size W w') :
  Calls Tryz.prog 264 #[v,.func (.func f) #[] lb] w fun e w'=>∃ r:Int,e = .returned (.int .i64 r)∧Found p ys r∧Below w.heap.size w w':=by
 have HF:Hid (∀ (y:Lay) (W:World),Below w.heap.size w W→Calls Tryz.prog f (#[.agg #[.int .i64 y.id,.int .i64 y.qty,.int .i64 y.val]] ++ lb) W fun e w'=>e = .returned (.bool (p y))∧Below W.heap.size W w'):=hf
 have HL:Hid (LayAt w v ys):=h
 clear hf h
 rcases HL.out.form with ⟨rfl,rfl⟩ | ⟨g,o,cap,rfl,hg,hc1,hc2⟩
 ·go_enter Tryz.func264,Tryz.ntmps264
  go_wp2
  refine wp_loop_rounds 1 ?_
  rw [rounds_succ]
  go_wp2
  go_ret
  exact ⟨-1,rfl,Or.inl ⟨rfl,fun y hy=>(by cases hy)⟩,Below.refl _ _⟩
 ·go_enter Tryz.func264,Tryz.ntmps264
  go_wp2
  go_loopw [8] (fun i wr=>∃ k:Nat,k≤ys.length∧i = .int .i64 k∧Hid (∀ j (hj:j < ys.length),j < k→p ys[j]=false)∧Below w.heap.size w wr) (fun i _=>ys.length - (intOf i).toNat)
  case atStart=>exact ⟨0,Nat.zero_le _,rfl,fun j _ hj=>absurd hj (Nat.not_lt_zero _),Below.refl _ _⟩
  case round=>
   obtain ⟨k,hk,rfl,HN,hb⟩:=hrel
   by_cases hlt:k < ys.length
   ·have hc:=fun j hj=>((HL.out.below hb).cell k j hlt hj).1
    have c0:=hc 0 (by omega)
    have c1:=hc 1 (by omega)
    have c2:=hc 2 (by omega)
    obtain ⟨y,hy⟩:∃ y,y=ys[k]:=⟨_,rfl⟩
    have HY:Hid (ys[k]=y):=hy.symm
    rw [← hy] at c0 c1 c2
    have hcall:=HF.out y wr hb
    clear hc hy
    obtain ⟨id,qty,val⟩:=y
    simp only [layC,List.getElem?_cons_zero,List.getElem?_cons_succ,Nat.add_zero] at c0 c1 c2 hcall
    generalize hpv:p ⟨id,qty,val⟩=pv at hcall
    have HPV:Hid (p ys[k]=pv):=by rw [HY.out];exact hpv
    clear hpv
    go_wp2_with fail
    refine hcall.mono ?_
    rintro e w1 ⟨rfl,hb1⟩
    have hb2:Below w.heap.size w w1:=hb.trans (hb1.mono hb.size)
    clear hcall
    cases pv with
    | true=>
     go_wp2
     go_ret
     exact ⟨k,rfl,Or.inr ⟨k,hlt,rfl,HPV.out,HN.out⟩,hb2⟩
    | false=>
     go_wp2
     go_roundw
     case rel=>
      refine ⟨k + 1,by omega,by go_num,fun j hj hjk=>?_,hb2⟩
      rcases Nat.lt_or_eq_of_le (Nat.le_of_lt_succ hjk) with x | x
      ·exact HN.out j hj x
      ·subst x;exact HPV.out
     case measure=>simp [intOf];omega
   ·obtain rfl:k=ys.length:=by omega
    go_wp2
    go_ret
    exact ⟨-1,rfl,Or.inl ⟨rfl,fun y hy=>by
     obtain ⟨j,hj,rfl⟩:=List.getElem_of_mem hy
     exact HN.out j hj hj⟩,hb⟩
theorem chg_none {o:Int} {ys:List Lay} (h:∀ y ∈ ys,decide (y.id=o)=false):hasId o ys=false:=by
 unfold hasId
 rw [List.any_eq_false]
 intro y hy
 have:=h y hy
 simpa using this
theorem chg_at {o p:Int}:∀ (ys:List Lay) (k:Nat) (hk:k < ys.length),decide (ys[k].id=o)=true→(∀ j (hj:j < ys.length),j < k→decide (ys[j].id=o)=false)→hasId o ys=true∧chg o p ys=ys.set k ⟨ys[k].id,ys[k].qty,ys[k].val + p⟩
 | [],k,hk,_,_=>absurd hk (Nat.not_lt_zero _)
 | y :: ys,0,hk,h,_=>by
  have e:y.id=o:=by simpa using h
  simp [hasId,chg,e]
 | y :: ys,k + 1,hk,h,hn=>by
  have e:¬ y.id=o:=of_decide_eq_false (hn 0 (Nat.zero_lt_succ _) (Nat.zero_lt_succ _))
  have ih:=chg_at (o:=o) (p:=p) ys k (by simpa using hk) (by simpa using h) (fun j hj hjk=>hn (j + 1) (Nat.succ_lt_succ hj) (Nat.succ_lt_succ hjk))
  have ih1:=ih.1
  unfold hasId at ih1 ⊢
  refine ⟨by rw [List.any_cons,ih1,Bool.or_true],?_⟩
  unfold chg
  rw [if_neg e,ih.2]
  rfl
theorem box1 (w:World) (B b o:Nat) (v:Value) (h:B≤b):Below B w (w.setCell ⟨b,o,none⟩ v):=⟨rfl,rfl,rfl,by simp [World.setCell],fun k hk=>Below.heap_setCell _ _ _ _ (by show k ≠ b;omega)⟩
theorem box5 (w:World) (B b:Nat) (v0 v1 v2 v3 v4:Value) (h:B≤b):Below B w (((((w.setCell ⟨b,0,none⟩ v0).setCell ⟨b,1,none⟩ v1).setCell ⟨b,2,none⟩ v2).setCell ⟨b,3,none⟩ v3).setCell ⟨b,4,none⟩ v4):=
 ((((box1 w B b 0 v0 h).trans (box1 _ B b 1 v1 h)).trans (box1 _ B b 2 v2 h)).trans (box1 _ B b 3 v3 h)).trans (box1 _ B b 4 v4 h)
theorem boxes_stk {w1 w2:World} {B pb:Nat} {sv:Value} {s:Stk} (h:StkAt w1 pb sv s) (hb:Below B w1 w2) (hp:pb < B) (hs:∀ k,sv.ownBlock=some k→k < B):StkAt w2 pb sv s:=by
 have e:=hb.block pb hp
 exact ⟨(World.cell?_of_block (a:=⟨pb,0,none⟩) e).trans h.c0,(World.cell?_of_block (a:=⟨pb,1,none⟩) e).trans h.c1,(World.frozen?_of_block (a:=⟨pb,0,none⟩) e).trans h.f0,(World.frozen?_of_block (a:=⟨pb,1,none⟩) e).trans h.f1,h.lay.kept fun k hk=>hb.block k (hs k hk),h.ne⟩
theorem Turned.onBelow {w a b:World} {pb:Nat} {sv:Value} (h:Turned w a pb sv) (hb:Below w.heap.size a b):Turned w b pb sv:=
 ⟨hb.os.trans h.os,hb.tape.trans h.tape,hb.output.trans h.output,Nat.le_trans h.size hb.size,fun k hk h1 h2=>(hb.block k hk).trans (h.block k hk h1 h2)⟩
theorem StkAt.set1 {w:World} {pb b o:Nat} {sv v:Value} {s:Stk} (h:StkAt w pb sv s) (hb:b ≠ pb) (hs:sv.ownBlock ≠ some b):StkAt (w.setCell ⟨b,o,none⟩ v) pb sv s:=
 ⟨(set_other (addr_ne hb)).trans h.c0,(set_other (addr_ne hb)).trans h.c1,set_frz.trans h.f0,set_frz.trans h.f1,h.lay.setBox hs,h.ne⟩
theorem StkAt.set5 {w:World} {pb b:Nat} {sv v0 v1 v2 v3 v4:Value} {s:Stk} (h:StkAt w pb sv s) (hb:b ≠ pb) (hs:sv.ownBlock ≠ some b):StkAt (((((w.setCell ⟨b,0,none⟩ v0).setCell ⟨b,1,none⟩ v1).setCell ⟨b,2,none⟩ v2).setCell ⟨b,3,none⟩ v3).setCell ⟨b,4,none⟩ v4) pb sv s:=
 ((((h.set1 hb hs).set1 hb hs).set1 hb hs).set1 hb hs).set1 hb hs
theorem charge1_any (y:Lay) (e:Ev) (eb:Nat) (W:World) (h:EvAt W eb e) :
  Calls Tryz.prog 265 (#[.agg #[.int .i64 y.id,.int .i64 y.qty,.int .i64 y.val]] ++ #[.pointer (some ⟨eb,0,none⟩)]) W fun r w'=>r = .returned (.bool (decide (y.id=e.ofI)))∧Below W.heap.size W w':=by
 have c5:=fun o:Obj=>(h.below ((Below.refl W.heap.size W).alloc (Nat.le_refl _) o)).c5
 have hB:∀ o:Obj,Below W.heap.size W (W.alloc o):=fun o=>(Below.refl _ _).alloc (Nat.le_refl _) o
 have HB:Hid _:=hB
 clear hB
 by_cases hd:y.id=e.ofI
 ·have hd2:decide (y.id=e.ofI)=true:=by simpa using hd
  go_enter Tryz.func265,Tryz.ntmps265
  go_wp2
  go_ret
  exact ⟨by rw [hd2];simp [hd],HB.out _⟩
 ·have hd2:decide (y.id=e.ofI)=false:=by simpa using hd
  go_enter Tryz.func265,Tryz.ntmps265
  go_wp2
  go_ret
  exact ⟨by rw [hd2];simp [hd],HB.out _⟩
set_option maxHeartbeats 2000000 in
theorem charge_does {pb:Nat} {sv:Value} {s:Stk} {w:World} (h:StkAt w pb sv s) (hok:∀ y ∈ s.ys,LayOK y) (hv:sumV s.ys≤3000000000000000000) (hl:s.ys.length≤1000000) (e:Ev) (hk:e.kind=2) (hp:0≤e.price∧e.price≤100000000000) :
  Calls Tryz.prog 243 #[.pointer (some ⟨pb,0,none⟩),evV e] w fun r w'=>r = .returned (.agg (linC (doE s e).2).toArray)∧∃ sv',StkAt w' pb sv' (doE s e).1∧Turned w w' pb sv∧Fresh w sv sv':=by
 have HDO:Hid (doE s e=if hasId e.ofI s.ys then (⟨chg e.ofI e.price s.ys,s.price⟩,⟨e.id,e.price,0,0,false⟩) else (s,⟨e.id,0,0,e.price,false⟩)):=by
  show _=_
  unfold doE;rw [if_neg (by omega),if_pos hk]
 have HS:Hid (StkAt w pb sv s):=h
 have HOK:Hid (∀ y ∈ s.ys,LayOK y):=hok
 have HV:Hid (sumV s.ys≤3000000000000000000):=hv
 clear h hok hv
 obtain ⟨id,item,kind,qty,price,ofI,day⟩:=e
 unfold evV
 simp only at HDO hk hp ⊢
 clear hk
 obtain ⟨W0,hW0⟩:∃ W,W=(w.alloc (.cells #[.int .i64 id,.string item,.int .i64 kind,.int .i64 qty,.int .i64 price,.int .i64 ofI,.int .i64 day] 93)).alloc (.cells #[.int .i64 0,.int .i64 0,.int .i64 0,.int .i64 0,.bool false] 180):=⟨_,rfl⟩
 have hB0:Below w.heap.size w W0:=by rw [hW0];exact ((Below.refl _ _).alloc (Nat.le_refl _) _).alloc (by simp) _
 have H0:=HS.out.below hB0
 have hE:EvAt W0 w.heap.size ⟨id,item,kind,qty,price,ofI,day⟩:=by rw [hW0];constructor <;> simp
 have hR:∀ j,j < 5→W0.cell? ⟨w.heap.size + 1,j,none⟩=some (#[Value.int .i64 0,.int .i64 0,.int .i64 0,.int .i64 0,.bool false][j]!)∧W0.frozen? ⟨w.heap.size + 1,j,none⟩=false:=by
  intro j hj
  rw [hW0]
  have:j=0∨j=1∨j=2∨j=3∨j=4:=by omega
  rcases this with rfl | rfl | rfl | rfl | rfl <;> simp
 have hsz0:W0.heap.size=w.heap.size + 2:=by rw [hW0];simp
 have hix:=idx_lay s.ys sv W0 H0.lay hl 265 #[.pointer (some ⟨w.heap.size,0,none⟩)] (fun y=>decide (y.id=ofI)) (enters_of Tryz.func265 (by kernel_rfl) rfl) (fun y W hb=>charge1_any y ⟨id,item,kind,qty,price,ofI,day⟩ w.heap.size W (hE.below hb))
 have b0:=H0.c0
 rw [hW0] at b0
 have HW0:Hid (W0=_):=hW0
 have HR:Hid _:=hR
 have HE:Hid (EvAt W0 w.heap.size ⟨id,item,kind,qty,price,ofI,day⟩):=hE
 have HH0:Hid (StkAt W0 pb sv s):=H0
 clear hW0 hR hE H0
 go_enter Tryz.func243,Tryz.ntmps243
 go_wp2_with fail
 rw [← HW0.out]
 refine hix.mono ?_
 rintro r0 w1 ⟨r,rfl,hfd,hb1⟩
 have HFD:Hid (Found (fun y:Lay=>decide (y.id=ofI)) s.ys r):=hfd
 have H1:=HH0.out.below hb1
 have E1:=HE.out.below hb1
 have e0:=E1.c0
 have e4:=E1.c4
 have r0:=((hb1.cell (p:=⟨w.heap.size + 1,0,none⟩) (by simp only;omega)).trans (HR.out 0 (by omega)).1)
 have r1:=((hb1.cell (p:=⟨w.heap.size + 1,1,none⟩) (by simp only;omega)).trans (HR.out 1 (by omega)).1)
 have r2:=((hb1.cell (p:=⟨w.heap.size + 1,2,none⟩) (by simp only;omega)).trans (HR.out 2 (by omega)).1)
 have r3:=((hb1.cell (p:=⟨w.heap.size + 1,3,none⟩) (by simp only;omega)).trans (HR.out 3 (by omega)).1)
 have r4:=((hb1.cell (p:=⟨w.heap.size + 1,4,none⟩) (by simp only;omega)).trans (HR.out 4 (by omega)).1)
 have z0:=((hb1.frozen (p:=⟨w.heap.size + 1,0,none⟩) (by simp only;omega)).trans (HR.out 0 (by omega)).2)
 have z1:=((hb1.frozen (p:=⟨w.heap.size + 1,1,none⟩) (by simp only;omega)).trans (HR.out 1 (by omega)).2)
 have z2:=((hb1.frozen (p:=⟨w.heap.size + 1,2,none⟩) (by simp only;omega)).trans (HR.out 2 (by omega)).2)
 have z3:=((hb1.frozen (p:=⟨w.heap.size + 1,3,none⟩) (by simp only;omega)).trans (HR.out 3 (by omega)).2)
 have z4:=((hb1.frozen (p:=⟨w.heap.size + 1,4,none⟩) (by simp only;omega)).trans (HR.out 4 (by omega)).2)
 simp at r0 r1 r2 r3 r4 e0 e4
 have hB1:Below w.heap.size w w1:=hB0.trans (hb1.mono hB0.size)
 have HH1:Hid (StkAt w1 pb sv s):=H1
 clear hix hfd hb1 E1 b0 H1
 rcases HFD.out with ⟨rfl,hno⟩ | ⟨k,hk,rfl,hp1,hn1⟩
 ·have hid:=chg_none hno
  have HD:Hid (doE s ⟨id,item,kind,qty,price,ofI,day⟩=(s,⟨id,0,0,price,false⟩)):=by
   show _=_
   rw [HDO.out,hid];rfl
  clear hno hid
  go_wp2
  refine bodyPost_ret (v:=.agg #[.int .i64 id,.int .i64 0,.int .i64 0,.int .i64 price,.bool false]) (by simp [results,Tryz.results243,go_sem, *]) rfl ⟨?_,sv,?_,?_,Fresh.refl _ _⟩
  ·rw [HD.out];rfl
  ·rw [HD.out];exact boxes_stk HH1.out (box5 _ w.heap.size _ _ _ _ _ _ (by omega)) HS.out.lt (fun k hk=>HS.out.lay.lt hk)
  ·exact Turned.of_below (hB1.trans (box5 _ _ _ _ _ _ _ _ (by omega)))
 ·obtain ⟨hid,hch⟩:=chg_at (o:=ofI) (p:=price) s.ys k hk hp1 hn1
  have HD:Hid (doE s ⟨id,item,kind,qty,price,ofI,day⟩=(⟨chg ofI price s.ys,s.price⟩,⟨id,price,0,0,false⟩)):=by
   show _=_
   rw [HDO.out,hid];rfl
  have HCH:Hid (chg ofI price s.ys=s.ys.set k ⟨s.ys[k].id,s.ys[k].qty,s.ys[k].val + price⟩):=hch
  have hms:=mem_sum HOK.out (List.getElem_mem hk)
  have hoy:=HOK.out s.ys[k] (List.getElem_mem hk)
  unfold LayOK at hoy
  have hvb:=HV.out
  rcases HH1.out.lay.form with ⟨e1,e2⟩ | ⟨g,o,cap,e1,hg,hc1,hc2⟩
  ·rw [e2] at hk;exact absurd hk (Nat.not_lt_zero _)
  ·subst e1
   have k0:=HH1.out.c0
   have kc:=HH1.out.lay.cell k 2 hk (by omega)
   have L2:=HH1.out.lay.set k 2 hk (by omega) (.int .i64 (s.ys[k].val + price)) ⟨s.ys[k].id,s.ys[k].qty,s.ys[k].val + price⟩ rfl
   rw [← hch] at L2
   have HL2:Hid (LayAt _ _ _):=L2
   simp only [layC,List.getElem?_cons_zero,List.getElem?_cons_succ] at kc
   obtain ⟨kc,kf⟩:=kc
   have hgp:g ≠ pb:=fun e=>HH1.out.ne (by simp [Value.ownBlock,e])
   have hgb:g < w.heap.size:=HS.out.lay.lt rfl
   have hgb1:¬ g=w.heap.size + 1:=by omega
   have hgb0:¬ g=w.heap.size:=by omega
   have hpv:s.ys[k].val + price≤4000000000000000000:=by omega
   have hk2:(k:Int) < (s.ys.length:Int):=by omega
   have hk3:k < s.ys.length:=hk
   clear hid hch hp1 hn1 L2
   generalize hyv:s.ys[k].val=yv at kc hpv HL2 HCH hms hoy
   clear hyv
   have mixed:Tryz.prog.follows .mixedOrders=true:=by kernel_rfl
   go_wp2_with fail
   go_big_region_o
   all_goals go_wp2
   obtain ⟨W2,hW2⟩:∃ W,W=w1.setCell ⟨g,o + k * 3 + 2,none⟩ (.int .i64 (yv + price)):=⟨_,rfl⟩
   have S2:StkAt W2 pb (.slice (some ⟨g,o,none⟩) s.ys.length cap) ⟨chg ofI price s.ys,s.price⟩:=by
    rw [hW2]
    exact ⟨(set_other (addr_ne hgp)).trans HH1.out.c0,(set_other (addr_ne hgp)).trans HH1.out.c1,set_frz.trans HH1.out.f0,set_frz.trans HH1.out.f1,HL2.out,HH1.out.ne⟩
   have T2:Turned w W2 pb (.slice (some ⟨g,o,none⟩) s.ys.length cap):=by
    rw [hW2]
    exact (Turned.of_below hB1).trans (turned_row _ g _ pb _ _ rfl) (Fresh.refl _ _)
   have hB5:=(box5 W2 w.heap.size (w.heap.size + 1) (.int .i64 id) (.int .i64 price) (.int .i64 0) (.int .i64 0) (.bool false) (by omega)).trans ((below_drew _).mono (by have:=T2.size;simp [World.setCell];omega))
   refine bodyPost_ret (v:=.agg #[.int .i64 id,.int .i64 price,.int .i64 0,.int .i64 0,.bool false]) (by simp [results,Tryz.results243,go_sem, *]) rfl ⟨?_,.slice (some ⟨g,o,none⟩) s.ys.length cap,?_,?_,Fresh.refl _ _⟩
   ·rw [HD.out];rfl
   ·rw [HD.out,← hW2]
    exact boxes_stk S2 hB5 HS.out.lt (fun k hk=>HS.out.lay.lt hk)
   ·rw [← hW2]
    exact T2.onBelow hB5
end Go.Proofs.YtbleojodidbhiaaGreatDoor
namespace Go.Proofs.YtbleojodidbhiaaGreatDoor
open Go.RowKit
structure UpK (T:World→World→Prop) (w:World) where
 v:World
 h:T w v
section
variable {P:Program} {ops:Array Oper} {md:Region.Mode}
def kOp (P:Program) (ops:Array Oper) (T:World→World→Prop) (i:Nat) (K:Act→World→Prop) (a:Act) (w:World):Prop:=
 match ops[i]? with
 | none=>K a w
 | some o=>if Region.wanted o (yielded ops a.tmps) then o.wp P a w (fun a' w'=>T w w'∧K a' w') QF else K (a.put o.dst undef) w
def wpAnyK (P:Program) (md:Region.Mode) (ops:Array Oper) (T:World→World→Prop) (Q:Act→World→Prop):Nat→Array Bool→Act→World→Prop
 | 0,listed,a,w=>Region.ready md ops listed=[]∧Q a w
 | fuel + 1,listed,a,w=>(Region.ready md ops listed=[]→Q a w)∧∀ i ∈ Region.ready md ops listed,kOp P ops T i (wpAnyK P md ops T Q fuel (listed.setIfInBounds i true)) a w
theorem wpOp_of_kOp {T:World→World→Prop} {i:Nat} {a:Act} {w:World} {K K':Act→World→Prop} {Q':Exit→Act→World→Prop} (h:∀ a w,K a w→K' a w) (hh:kOp P ops T i K a w):wpOp P ops Q' i K' a w:=by
 unfold kOp at hh
 unfold wpOp
 split
 ·rename_i ho;simp only [ho] at hh;exact h _ _ hh
 ·rename_i o ho
  simp only [ho] at hh
  split
  ·rename_i hw;simp only [hw,if_true] at hh;exact .inl (wp_of_safe (fun a w hk=>h _ _ hk.2) hh)
  ·rename_i hw;simp only [hw] at hh;exact h _ _ hh
theorem wpAny_of_K {T:World→World→Prop} {Q:Act→World→Prop} {Q':Exit→Act→World→Prop} (hQ:∀ a w,Q a w→Q' .normal a w):∀ (fuel:Nat) (listed:Array Bool) (a:Act) (w:World),
  wpAnyK P md ops T Q fuel listed a w→wpAny P md ops Q' fuel listed a w
 | 0,_,_,_,h=>⟨h.1,hQ _ _ h.2⟩
 | fuel + 1,_,_,_,h=>⟨fun h0=>hQ _ _ (h.1 h0),fun i hi=>wpOp_of_kOp (fun a' w' h'=>wpAny_of_K hQ fuel _ a' w' h') (h.2 i hi)⟩
theorem YieldsR.kOp {R T:World→World→Prop} (hR:∀ w,R w w) (hT0:∀ w,T w w) {i:Nat} {o:Oper} {v:Value} {a:Act} {w:World} (hi:ops[i]?=some o) (hy:YieldsR R P ops w o v a) {K:Act→World→Prop} (h:K (a.put o.dst v) w):kOp P ops T i K a w:=by
 unfold Go.Proofs.YtbleojodidbhiaaGreatDoor.kOp
 simp only [hi]
 rcases hy with ⟨hw,hv⟩ | ⟨hw,rfl⟩
 ·simp only [hw,if_true]
  unfold Oper.wp
  rw [hv w (hR w)]
  exact ⟨hT0 _,h⟩
 ·simp only [hw,Bool.false_eq_true,if_false];exact h
theorem kOp_put {R:World→World→Prop} (hR:∀ w,R w w) (hT:∀ a b c,R a b→R b c→R a c) {T:World→World→Prop} {j:Nat} {oi oj:Oper} {v:Value} (hj:ops[j]?=some oj) (hap:oi.apart ops oj=true)
  (hsi:∀ cs b,oi.op ≠ .select cs b) (hsj:∀ cs b,oj.op ≠ .select cs b) (hm:∀ w w',T w w'→R w w') {K:Act→World→Prop} {a:Act} {w:World}
  (hy:YieldsR R P ops w oi v a) (h:kOp P ops T j K (a.put oi.dst v) w) :
  kOp P ops T j (fun a' w'=>YieldsR R P ops w' oi v a'∧K (a'.put oi.dst v) w') a w:=by
 obtain ⟨h1,h2,h3⟩:=Oper.apart_spec hap
 unfold kOp at *
 simp only [hj] at *
 rw [wanted_put oj a oi.dst v h1] at h
 split
 ·rename_i hw
  simp only [hw,if_true] at h
  exact wp_put (K:=fun a' w'=>T w w'∧K a' w') (execOp_put oj hsj a oi.dst v h1) h2 (fun b w' u hb hk=>⟨hk.1,hy.keep hT (hm _ _ hk.1) hb hsi h3,hk.2⟩) h
 ·rename_i hw
  simp only [hw] at h
  exact ⟨hy.keep hT (hR _) rfl hsi h3,by rw [← Act.put_comm a v undef h2];exact h⟩
theorem kOp_mono {T:World→World→Prop} {i:Nat} {a:Act} {w:World} {K K':Act→World→Prop} (h:∀ a w,K a w→K' a w) (hh:kOp P ops T i K a w):kOp P ops T i K' a w:=by
 unfold kOp at *
 split
 ·rename_i ho;simp only [ho] at hh;exact h _ _ hh
 ·rename_i o ho
  simp only [ho] at hh
  split
  ·rename_i hw;simp only [hw,if_true] at hh;exact wp_of_safe (fun a w hk=>⟨hk.1,h _ _ hk.2⟩) hh
  ·rename_i hw;simp only [hw] at hh;exact h _ _ hh
theorem wpAnyK_first {R T:World→World→Prop} (hR:∀ w,R w w) (hT:∀ a b c,R a b→R b c→R a c) (hT0:∀ w,T w w) (hm:∀ w w',T w w'→R w w') {Q:Act→World→Prop} {i:Nat} {oi:Oper} {v:Value} (hi:ops[i]?=some oi)
  (hsel:∀ (j:Nat) (o:Oper) cs b,ops[j]?=some o→o.op ≠ .select cs b) :
  ∀ (fuel:Nat) (listed:Array Bool) (a:Act) (w:World),
   (∀ j oj,ops[j]?=some oj→j ≠ i→listed.getD j true=false→(∀ e ∈ oj.after,Region.binds md e=true→e.on ≠ i)→oi.apart ops oj=true) →
   i ∈ Region.ready md ops listed→YieldsR R P ops w oi v a →
   wpAnyK P md ops T Q fuel (listed.setIfInBounds i true) (a.put oi.dst v) w→wpAnyK P md ops T Q (fuel + 1) listed a w:=by
 intro fuel
 induction fuel with
 | zero=>
  intro listed a w _ hr hy H
  refine ⟨fun h=>(by rw [h] at hr;cases hr),fun j hj=>?_⟩
  by_cases hji:j=i
  ·subst hji;exact hy.kOp hR hT0 hi H
  ·have:=ready_mono hj hji
   rw [H.1] at this
   cases this
 | succ fuel ih=>
  intro listed a w hfree hr hy H
  refine ⟨fun h=>(by rw [h] at hr;cases hr),fun j hj=>?_⟩
  by_cases hji:j=i
  ·subst hji;exact hy.kOp hR hT0 hi H
  ·have h1:=H.2 j (ready_mono hj hji)
   obtain ⟨hjun,oj,hoj,hall⟩:=mem_ready.1 hj
   have hnot:∀ e ∈ oj.after,Region.binds md e=true→e.on ≠ i:=fun e he hb heq=>by
    have h1:=hall e he hb
    have h0:=(mem_ready.1 hr).1
    rw [heq] at h1
    rcases Nat.lt_or_ge i listed.size with h' | h'
    ·simp [h'] at h0 h1;rw [h0] at h1;cases h1
    ·simp [Array.getElem?_eq_none h'] at h1
   have h2:=kOp_put hR hT hoj (hfree j oj hoj hji hjun hnot) (fun cs b=>hsel i oi cs b hi) (fun cs b=>hsel j oj cs b hoj) hm hy h1
   have hfree':∀ k ok,ops[k]?=some ok→k ≠ i→(listed.setIfInBounds j true).getD k true=false →
     (∀ e ∈ ok.after,Region.binds md e=true→e.on ≠ i)→oi.apart ops ok=true:=fun k ok hk hki hun hno=>by
    refine hfree k ok hk hki ?_ hno
    by_cases hjk:j=k
    ·subst hjk;exact hjun
    ·rw [getD_set_ne true hjk] at hun;exact hun
   refine kOp_mono (fun a' w' h3=>ih (listed.setIfInBounds j true) a' w' hfree' (ready_mono hr (Ne.symm hji)) h3.1 ?_) h2
   rw [Array.setIfInBounds_comm _ _ hji]
   exact h3.2
def keepQ (T:World→World→Prop) (w:World) (K:Act→World→Prop):Exit→Act→World→Prop:=fun x a' w'=>x = .normal∧T w w'∧K a' w'
theorem safe_of_keep {T:World→World→Prop} {o:Oper} {a:Act} {w:World} {K:Act→World→Prop} (hh:o.wp P a w (keepQ T w K .normal) (keepQ T w K)):o.wp P a w (fun a' w'=>T w w'∧K a' w') QF:=by
 unfold Oper.wp at *
 generalize (execOp a.eval o).run P w=r at *
 cases r with
 | ok n w'=>
  cases n <;> simp only [Oper.upon] at hh ⊢ <;>
   first
    | exact hh.2
    | exact Calls.mono hh (fun e w'' he=>by
      cases e
      ·exact he.2
      ·exact absurd he.1 (by simp)
      ·obtain ⟨_,_,hf⟩:=he;exact absurd hf.1 (by simp))
    | exact Rows.mono hh (fun _ _ he=>he.2)
 | halt x w'=>
  cases x <;> simp only [Oper.upon] at hh ⊢
  exact absurd hh.1 (by simp)
def wpKeep (P:Program) (ops:Array Oper) (T:World→World→Prop) (Q:Act→World→Prop):List (Bool × Nat)→Act→World→Prop
 | [],a,w=>Q a w
 | (true,k) :: rest,a,w=>∃ o,ops[k]?=some o∧wpQuiet P ops (fun w'=>∃ n:UpK T w,w'=n.v) (fun a'=>wpKeep P ops T Q rest a' w) [o] a
 | (false,k) :: rest,a,w=>∃ o,ops[k]?=some o∧wpList P ops (keepQ T w (wpKeep P ops T Q rest)) [o] a w
theorem keep_nil {T:World→World→Prop} {Q:Act→World→Prop} {a:Act} {w:World} (h:Q a w):wpKeep P ops T Q [] a w:=h
theorem keep_q {T:World→World→Prop} {l:List Oper} {Q:Act→World→Prop} {k:Nat} {rest:List (Bool × Nat)} {a:Act} {w:World} {o:Oper} (ho:nth l k=some o)
  (h:wpQuiet P l.toArray (fun w'=>∃ n:UpK T w,w'=n.v) (fun a'=>wpKeep P l.toArray T Q rest a' w) [o] a):wpKeep P l.toArray T Q ((true,k) :: rest) a w:=⟨o,by rw [← ho,nth_is];simp,h⟩
theorem keep_n {T:World→World→Prop} {l:List Oper} {Q:Act→World→Prop} {k:Nat} {rest:List (Bool × Nat)} {a:Act} {w:World} {o:Oper} (ho:nth l k=some o)
  (h:wpList P l.toArray (keepQ T w (wpKeep P l.toArray T Q rest)) [o] a w):wpKeep P l.toArray T Q ((false,k) :: rest) a w:=⟨o,by rw [← ho,nth_is];simp,h⟩
def keepB (md:Region.Mode) (ops:Array Oper):List (Bool × Nat)→Array Bool→Bool
 | [],listed=>(Region.ready md ops listed).isEmpty
 | (true,k) :: rest,listed=>(Region.ready md ops listed).contains k && Region.free md ops listed k && (match ops[k]? with | some o=>plainOpE o.op | none=>false) && keepB md ops rest (listed.setIfInBounds k true)
 | (false,k) :: rest,listed=>decide (Region.ready md ops listed=[k]) && keepB md ops rest (listed.setIfInBounds k true)
theorem wpAnyK_ord {T:World→World→Prop} (hT0:∀ w,T w w) (hTt:∀ a b c,T a b→T b c→T a c) {Q:Act→World→Prop} (hs:Region.noSelect ops=true):∀ (ord:List (Bool × Nat)) (listed:Array Bool) (a:Act) (w:World),keepB md ops ord listed=true→wpKeep P ops T Q ord a w→wpAnyK P md ops T Q ord.length listed a w
 | [],listed,a,w,hB,h=>⟨by simpa [keepB] using hB,h⟩
 | (true,k) :: rest,listed,a,w,hB,⟨o,ho,h⟩=>by
  simp only [keepB,Bool.and_eq_true] at hB
  obtain ⟨⟨⟨hr,hf⟩,hp⟩,hB'⟩:=hB
  rw [ho] at hp
  obtain ⟨v,hy,hK⟩:=yieldsR_of_quiet (R:=T) (w:=w) (fun w' hb=>⟨⟨w',hb⟩,rfl⟩) hp h
  exact wpAnyK_first (R:=T) hT0 hTt hT0 (fun _ _ h=>h) ho (Region.noSelect_spec hs) rest.length listed a w (Region.free_spec ho hf) (by simpa using hr) hy (wpAnyK_ord hT0 hTt hs rest _ _ _ hB' hK)
 | (false,k) :: rest,listed,a,w,hB,⟨o,ho,h⟩=>by
  simp only [keepB,Bool.and_eq_true,decide_eq_true_eq] at hB
  obtain ⟨hr,hB'⟩:=hB
  refine ⟨fun h0=>(by rw [h0] at hr;cases hr),fun i hi=>?_⟩
  rw [hr] at hi
  obtain rfl:i=k:=by simpa using hi
  unfold kOp
  simp only [ho]
  unfold wpList at h
  split
  ·rename_i hw
   simp only [hw,if_true] at h
   rcases h with h | ⟨_,_,_,hf⟩
   ·have h2:=safe_of_keep (K:=wpKeep P ops T Q rest) h
    exact wp_of_safe (fun a w hk=>⟨hk.1,wpAnyK_ord hT0 hTt hs rest _ _ _ hB' hk.2⟩) h2
   ·exact absurd hf.1 (by simp)
  ·rename_i hw
   simp only [hw] at h
   exact wpAnyK_ord hT0 hTt hs rest _ _ _ hB' h.2.2
theorem wp_region_keep (T:World→World→Prop) {id:Nat} {Q:Exit→Act→World→Prop} {a:Act} {w:World} {l:List Oper} (ord:List (Bool × Nat)) (hT0:∀ w,T w w) (hTt:∀ a b c,T a b→T b c→T a c) (hm:P.follows .mixedOrders=true)
  (hB:(Region.noSelect l.toArray && decide (ord.length=l.length) && keepB .any l.toArray ord (Array.replicate l.length false))=true)
  (h:wpKeep P l.toArray T (fun a' w'=>Q .normal a' w') ord a w.drew):(Code.region id l.toArray true).wp P Q a w:=by
 simp only [Bool.and_eq_true,decide_eq_true_eq] at hB
 obtain ⟨⟨hs,hl⟩,hB⟩:=hB
 refine wp_region_any hm ?_
 have:=wpAny_of_K (Q':=Q) (fun a w h=>h) _ _ _ _ (wpAnyK_ord (md:=.any) hT0 hTt hs ord _ a w.drew hB h)
 rw [hl] at this
 simpa using this
end
def SameAt (bx:Nat) (w w':World):Prop:=w'.heap[bx]?=w.heap[bx]?
theorem sameAt_refl (bx:Nat) (w:World):SameAt bx w w:=rfl
theorem sameAt_trans (bx:Nat) (a b c:World) (h:SameAt bx a b) (h':SameAt bx b c):SameAt bx a c:=Eq.trans h' h
theorem upK_ne (bx:Nat) (w:World):Nonempty (UpK (SameAt bx) w):=⟨⟨w,rfl⟩⟩
theorem UpK.cell {bx o:Nat} {w:World} (n:UpK (SameAt bx) w) {x:Value} (h:w.cell? ⟨bx,o,none⟩=some x):n.v.cell? ⟨bx,o,none⟩=some x:=(World.cell?_of_block (a:=⟨bx,o,none⟩) n.h).trans h
end Go.Proofs.YtbleojodidbhiaaGreatDoor
namespace Go.Proofs.YtbleojodidbhiaaGreatDoor
open Go.RowKit
set_option maxHeartbeats 2000000 in
theorem count_does {pb:Nat} {sv:Value} {s:Stk} {w:World} {n:Nat} (h:StkAt w pb sv s) (ok:StkOK n s) (hn:n≤10000) (e:Ev) (hk:e.kind=4) (hq:0≤e.qty∧e.qty≤100000) :
  Calls Tryz.prog 245 #[.pointer (some ⟨pb,0,none⟩),evV e] w fun r w'=>r = .returned (.agg (linC (doE s e).2).toArray)∧∃ sv',StkAt w' pb sv' (doE s e).1∧Turned w w' pb sv∧Fresh w sv sv':=by
 have HDO:Hid (doE s e=if sumQ s.ys < e.qty then (⟨s.ys ++ [⟨e.id,e.qty - sumQ s.ys,(e.qty - sumQ s.ys) * s.price⟩],s.price⟩,⟨e.id,(e.qty - sumQ s.ys) * s.price,0,0,true⟩)
   else (⟨(tk s.ys (sumQ s.ys - e.qty)).1,s.price⟩,⟨e.id,(tk s.ys (sumQ s.ys - e.qty)).2.1,0,0,false⟩)):=by
  show _=_
  unfold doE;rw [if_neg (by omega),if_neg (by omega),if_neg (by omega)]
 have HS:Hid (StkAt w pb sv s):=h
 have HOK:Hid (StkOK n s):=ok
 have hl:s.ys.length≤1000000:=by have:=ok.len;omega
 have hsq:sumQ s.ys≤1000000000:=by have:=ok.q;omega
 have hsv:sumV s.ys≤4000000000000000000:=by have:=ok.v;omega
 have hs0:=sum_nonneg ok.ok
 clear h ok
 obtain ⟨id,item,kind,qty,price,ofI,day⟩:=e
 unfold evV
 simp only at HDO hk hq ⊢
 clear hk
 obtain ⟨W0,hW0⟩:∃ W,W=(w.alloc (.cells #[.int .i64 id,.string item,.int .i64 kind,.int .i64 qty,.int .i64 price,.int .i64 ofI,.int .i64 day] 93)).alloc (.cells #[.int .i64 0,.int .i64 0,.int .i64 0,.int .i64 0,.bool false] 180):=⟨_,rfl⟩
 have hB0:Below w.heap.size w W0:=by rw [hW0];exact ((Below.refl _ _).alloc (Nat.le_refl _) _).alloc (by simp) _
 have H0:=HS.out.below hB0
 have hE:EvAt W0 w.heap.size ⟨id,item,kind,qty,price,ofI,day⟩:=by rw [hW0];constructor <;> simp
 have hR:∀ j,j < 5→W0.cell? ⟨w.heap.size + 1,j,none⟩=some (#[Value.int .i64 0,.int .i64 0,.int .i64 0,.int .i64 0,.bool false][j]!)∧W0.frozen? ⟨w.heap.size + 1,j,none⟩=false:=by
  intro j hj
  rw [hW0]
  have:j=0∨j=1∨j=2∨j=3∨j=4:=by omega
  rcases this with rfl | rfl | rfl | rfl | rfl <;> simp
 have hsz0:W0.heap.size=w.heap.size + 2:=by rw [hW0];simp
 have hsum:=sum_any s.ys sv W0 H0.lay HOK.out.ok hsq hsv hl
 have b0:=H0.c0
 rw [hW0] at b0
 have HW0:Hid (W0=_):=hW0
 have HR:Hid _:=hR
 have HE:Hid (EvAt W0 w.heap.size ⟨id,item,kind,qty,price,ofI,day⟩):=hE
 have HH0:Hid (StkAt W0 pb sv s):=H0
 clear hW0 hR hE H0
 go_enter Tryz.func245,Tryz.ntmps245
 go_wp2_with fail
 rw [← HW0.out]
 refine hsum.mono ?_
 rintro r0 w1 ⟨rfl,hb1⟩
 have H1:=HH0.out.below hb1
 have E1:=HE.out.below hb1
 have e0:=E1.c0
 have e3:=E1.c3
 simp only at e0 e3
 have hB1:Below w.heap.size w w1:=hB0.trans (hb1.mono hB0.size)
 by_cases hlt:sumQ s.ys < qty
 ·have HD:Hid (doE s ⟨id,item,kind,qty,price,ofI,day⟩=(⟨s.ys ++ [⟨id,qty - sumQ s.ys,(qty - sumQ s.ys) * s.price⟩],s.price⟩,⟨id,(qty - sumQ s.ys) * s.price,0,0,true⟩)):=by
   show _=_
   rw [HDO.out,if_pos hlt]
  go_wp2_with fail
  refine wp_region_keep (SameAt w.heap.size) [(true,0),(true,1),(true,2),(true,3),(true,4),(true,5),(true,6),(true,7),(true,8),(false,9),(true,10),(false,11)] (sameAt_refl _) (sameAt_trans _) (by kernel_rfl) (by kernel_rfl) ?_
  obtain ⟨W2,hW2⟩:∃ W,W=w1.drew:=⟨_,rfl⟩
  rw [← hW2]
  have hb2:Below w1.heap.size w1 W2:=by rw [hW2];exact below_drew _
  have H2:=H1.below hb2
  have E2:=E1.below hb2
  have q0:=E2.c0
  have q3:=E2.c3
  simp only at q0 q3
  have hU:=upK_ne w.heap.size
  have f0:=fun n:UpK (SameAt w.heap.size) W2=>n.cell q0
  have f3:=fun n:UpK (SameAt w.heap.size) W2=>n.cell q3
  have hB2:Below w.heap.size w W2:=hB1.trans (hb2.mono hB1.size)
  have hR2:∀ j,j < 5→W2.cell? ⟨w.heap.size + 1,j,none⟩=some (#[Value.int .i64 0,.int .i64 0,.int .i64 0,.int .i64 0,.bool false][j]!)∧W2.frozen? ⟨w.heap.size + 1,j,none⟩=false:=fun j hj=>by
   have hx:=hb1.trans (hb2.mono hb1.size)
   exact ⟨(hx.cell (p:=⟨w.heap.size + 1,j,none⟩) (by show w.heap.size + 1 < _;omega)).trans (HR.out j hj).1,(hx.frozen (p:=⟨w.heap.size + 1,j,none⟩) (by show w.heap.size + 1 < _;omega)).trans (HR.out j hj).2⟩
  have hs2:w.heap.size + 1 < W2.heap.size:=by have:=hb1.size;have:=hb2.size;omega
  have HR2:Hid _:=hR2
  have HE2:Hid (EvAt W2 w.heap.size _):=E2
  clear hW2 E2 q0 q3 E1 e0 e3 H1 b0 hsum hb1 hb2 hR2
  repeat (refine keep_q rfl ?_;go_big_quiet_step (fail);refine wpQuiet_nil ?_)
  refine keep_n rfl ?_
  clear f0 f3
  go_wp2_with fail
  refine (put_does H2 hl id (qty - sumQ s.ys) (by omega) (by omega) HOK.out.p).mono ?_
  rintro r0 w3 ⟨rfl,sv3,S3,T3,F3⟩
  have hne1:sv.ownBlock ≠ some (w.heap.size + 1):=fun e=>by have:=HS.out.lay.lt e;omega
  have hne0:sv.ownBlock ≠ some w.heap.size:=fun e=>by have:=HS.out.lay.lt e;omega
  have hpb:=HS.out.lt
  have hsame:SameAt w.heap.size W2 w3:=T3.block _ (by omega) (by omega) hne0
  have e1:w3.heap[w.heap.size + 1]?=W2.heap[w.heap.size + 1]?:=T3.block _ hs2 (by omega) hne1
  have r0:=(World.cell?_of_block (a:=⟨w.heap.size + 1,0,none⟩) e1).trans (HR2.out 0 (by omega)).1
  have r1:=(World.cell?_of_block (a:=⟨w.heap.size + 1,1,none⟩) e1).trans (HR2.out 1 (by omega)).1
  have r2:=(World.cell?_of_block (a:=⟨w.heap.size + 1,2,none⟩) e1).trans (HR2.out 2 (by omega)).1
  have r3:=(World.cell?_of_block (a:=⟨w.heap.size + 1,3,none⟩) e1).trans (HR2.out 3 (by omega)).1
  have r4:=(World.cell?_of_block (a:=⟨w.heap.size + 1,4,none⟩) e1).trans (HR2.out 4 (by omega)).1
  have z0:=(World.frozen?_of_block (a:=⟨w.heap.size + 1,0,none⟩) e1).trans (HR2.out 0 (by omega)).2
  have z1:=(World.frozen?_of_block (a:=⟨w.heap.size + 1,1,none⟩) e1).trans (HR2.out 1 (by omega)).2
  have z2:=(World.frozen?_of_block (a:=⟨w.heap.size + 1,2,none⟩) e1).trans (HR2.out 2 (by omega)).2
  have z3:=(World.frozen?_of_block (a:=⟨w.heap.size + 1,3,none⟩) e1).trans (HR2.out 3 (by omega)).2
  have z4:=(World.frozen?_of_block (a:=⟨w.heap.size + 1,4,none⟩) e1).trans (HR2.out 4 (by omega)).2
  simp at r0 r1 r2 r3 r4
  clear e1
  have HS3:Hid (StkAt w3 pb sv3 _):=S3
  have HT3:Hid (Turned W2 w3 pb sv):=T3
  have HF3:Hid (Fresh W2 sv sv3):=F3
  clear S3 T3 F3
  go_wp2_with fail
  refine ⟨rfl,hsame,?_⟩
  refine keep_q rfl ?_
  go_big_quiet_step (fail)
  refine wpQuiet_nil ?_
  refine keep_n rfl ?_
  go_wp2_with fail
  refine ⟨rfl,(box5 w3 (w.heap.size + 1) (w.heap.size + 1) _ _ _ _ _ (Nat.le_refl _)).block _ (by omega),?_⟩
  refine keep_nil ?_
  have hne3:sv3.ownBlock ≠ some (w.heap.size + 1):=fun e=>by
   rcases HF3.out _ e with x | x
   ·exact hne1 x
   ·omega
  have hTT:Turned w w3 pb sv:=(Turned.of_below hB2).trans HT3.out (Fresh.refl _ _)
  have hB5:=fun v0 v1 v2 v3 v4=>box5 w3 w.heap.size (w.heap.size + 1) v0 v1 v2 v3 v4 (by omega)
  go_wp2
  refine bodyPost_ret (v:=.agg #[.int .i64 id,.int .i64 ((qty - sumQ s.ys) * s.price),.int .i64 0,.int .i64 0,.bool true]) (by simp [results,Tryz.results245,go_sem, *]) rfl ⟨?_,sv3,?_,hTT.onBelow (hB5 _ _ _ _ _),HF3.out.grow hB2.size⟩
  ·rw [HD.out];rfl
  ·rw [HD.out];exact HS3.out.set5 (by omega) hne3
 ·have HD:Hid (doE s ⟨id,item,kind,qty,price,ofI,day⟩=(⟨(tk s.ys (sumQ s.ys - qty)).1,s.price⟩,⟨id,(tk s.ys (sumQ s.ys - qty)).2.1,0,0,false⟩)):=by
   show _=_
   rw [HDO.out,if_neg hlt]
  have hR1:∀ j,j < 5→w1.cell? ⟨w.heap.size + 1,j,none⟩=some (#[Value.int .i64 0,.int .i64 0,.int .i64 0,.int .i64 0,.bool false][j]!)∧w1.frozen? ⟨w.heap.size + 1,j,none⟩=false:=fun j hj=>
   ⟨(hb1.cell (p:=⟨w.heap.size + 1,j,none⟩) (by show w.heap.size + 1 < _;omega)).trans (HR.out j hj).1,(hb1.frozen (p:=⟨w.heap.size + 1,j,none⟩) (by show w.heap.size + 1 < _;omega)).trans (HR.out j hj).2⟩
  have HR1:Hid _:=hR1
  have HE1:Hid (EvAt w1 w.heap.size _):=E1
  have hs1:w.heap.size + 1 < w1.heap.size:=by have:=hb1.size;omega
  clear hR1 E1
  go_wp2_with fail
  refine (take_does H1 HOK.out.ok hsv (sumQ s.ys - qty) (by omega) (by omega)).mono ?_
  rintro r0 w3 ⟨rfl,sv3,S3,T3,F3⟩
  have hne1:sv.ownBlock ≠ some (w.heap.size + 1):=fun e=>by have:=HS.out.lay.lt e;omega
  have hne0:sv.ownBlock ≠ some w.heap.size:=fun e=>by have:=HS.out.lay.lt e;omega
  have hpb:=HS.out.lt
  have e1:w3.heap[w.heap.size + 1]?=w1.heap[w.heap.size + 1]?:=T3.block _ hs1 (by omega) hne1
  have e2:w3.heap[w.heap.size]?=w1.heap[w.heap.size]?:=T3.block _ (by omega) (by omega) hne0
  have r0:=(World.cell?_of_block (a:=⟨w.heap.size + 1,0,none⟩) e1).trans (HR1.out 0 (by omega)).1
  have r1:=(World.cell?_of_block (a:=⟨w.heap.size + 1,1,none⟩) e1).trans (HR1.out 1 (by omega)).1
  have r2:=(World.cell?_of_block (a:=⟨w.heap.size + 1,2,none⟩) e1).trans (HR1.out 2 (by omega)).1
  have r3:=(World.cell?_of_block (a:=⟨w.heap.size + 1,3,none⟩) e1).trans (HR1.out 3 (by omega)).1
  have r4:=(World.cell?_of_block (a:=⟨w.heap.size + 1,4,none⟩) e1).trans (HR1.out 4 (by omega)).1
  have z0:=(World.frozen?_of_block (a:=⟨w.heap.size + 1,0,none⟩) e1).trans (HR1.out 0 (by omega)).2
  have z1:=(World.frozen?_of_block (a:=⟨w.heap.size + 1,1,none⟩) e1).trans (HR1.out 1 (by omega)).2
  have z2:=(World.frozen?_of_block (a:=⟨w.heap.size + 1,2,none⟩) e1).trans (HR1.out 2 (by omega)).2
  have z3:=(World.frozen?_of_block (a:=⟨w.heap.size + 1,3,none⟩) e1).trans (HR1.out 3 (by omega)).2
  have z4:=(World.frozen?_of_block (a:=⟨w.heap.size + 1,4,none⟩) e1).trans (HR1.out 4 (by omega)).2
  have q0:=(World.cell?_of_block (a:=⟨w.heap.size,0,none⟩) e2).trans HE1.out.c0
  simp at r0 r1 r2 r3 r4 q0
  have HS3:Hid (StkAt w3 pb sv3 _):=S3
  have hne3:sv3.ownBlock ≠ some (w.heap.size + 1):=fun e=>by
   rcases F3 _ e with x | x
   ·exact hne1 x
   ·omega
  have hTT:Turned w w3 pb sv:=(Turned.of_below hB1).trans T3 (Fresh.refl _ _)
  have HF3:Hid (Fresh w sv sv3):=F3.grow hB1.size
  have hB5:=fun v0 v1 v2 v3 v4=>box5 w3 w.heap.size (w.heap.size + 1) v0 v1 v2 v3 v4 (by omega)
  have HTT:Hid (Turned w w3 pb sv):=hTT
  clear e1 e2 S3 T3 F3 H1 e0 e3 b0 hsum hb1 hTT
  generalize (tk s.ys (sumQ s.ys - qty)).2.1=tv at HD ⊢
  generalize (tk s.ys (sumQ s.ys - qty)).2.2=tm
  go_wp2
  refine bodyPost_ret (v:=.agg #[.int .i64 id,.int .i64 tv,.int .i64 0,.int .i64 0,.bool false]) (by simp [results,Tryz.results245,go_sem, *]) rfl ⟨?_,sv3,?_,HTT.out.onBelow (hB5 _ _ _ _ _),HF3.out⟩
  ·rw [HD.out];rfl
  ·rw [HD.out];exact HS3.out.set5 (by omega) hne3
end Go.Proofs.YtbleojodidbhiaaGreatDoor
namespace Go.Proofs.YtbleojodidbhiaaGreatDoor
open Go.RowKit
section
variable {P:Program} {ops:Array Oper} {md:Region.Mode}
def plainOpF:Op→Bool
 | .lookup ..=>true
 | o=>plainOpE o
theorem plain_onlyF {ρ:Operand→Value} {o:Oper} {w w':World} {n:Next} (hp:plainOpF o.op=true) (h:(execOp ρ o).run P w = .ok n w'):∃ u,n = .value u:=by
 cases hop:o.op
 case lookup t m k c=>
  have key:VOnly P (execOp ρ o):=by
   unfold execOp
   rw [hop]
   exact vonly_bind _ _ (fun _=>vonly_pure _)
  exact key w n w' h
 all_goals exact plain_onlyE (by rw [hop] at hp;rw [hop];exact hp) h
theorem yieldsR_of_quietF {R:World→World→Prop} {C:World→Prop} {w:World} {o:Oper} {a:Act} {K:Act→Prop} (hC:∀ w',R w w'→C w') (hp:plainOpF o.op=true) (h:wpQuiet P ops C K [o] a):∃ v,YieldsR R P ops w o v a∧K (a.put o.dst v):=by
 unfold wpQuiet at h
 split at h
 ·rename_i hw
  obtain ⟨v,h1,h2⟩:=h
  refine ⟨v,.inl ⟨hw,fun n hn=>?_⟩,h2⟩
  have h3:=h1 n (hC n hn)
  unfold Oper.quietAt at h3
  cases hr:(execOp a.eval o).run P n with
  | ok m w'=>
   obtain ⟨u,rfl⟩:=plain_onlyF hp hr
   rw [hr] at h3
   obtain ⟨e1,e2⟩:=h3
   rw [e1,e2]
  | halt x w'=>rw [hr] at h3;exact False.elim h3
 ·rename_i hw
  exact ⟨undef,.inr ⟨by simpa using hw,rfl⟩,h⟩
def wpPre (P:Program) (ops:Array Oper) (Q:Act→World→Prop):List (Bool × Nat)→Act→World→Prop
 | [],a,w=>Q a w
 | (false,k) :: rest,a,w=>∃ o,ops[k]?=some o∧wpQuiet P ops (fun w'=>∃ n:AnyW,w'=n.v) (fun a'=>wpPre P ops Q rest a' w) [o] a
 | (true,k) :: rest,a,w=>∃ o,ops[k]?=some o∧wpQuiet P ops (fun w'=>∃ n:Up w,w'=n.v) (fun a'=>wpPre P ops Q rest a' w) [o] a
theorem pre_nil {Q:Act→World→Prop} {a:Act} {w:World} (h:Q a w):wpPre P ops Q [] a w:=h
theorem pre_p {l:List Oper} {Q:Act→World→Prop} {k:Nat} {rest:List (Bool × Nat)} {a:Act} {w:World} {o:Oper} (ho:nth l k=some o)
  (h:wpQuiet P l.toArray (fun w'=>∃ n:AnyW,w'=n.v) (fun a'=>wpPre P l.toArray Q rest a' w) [o] a):wpPre P l.toArray Q ((false,k) :: rest) a w:=⟨o,by rw [← ho,nth_is];simp,h⟩
theorem pre_q {l:List Oper} {Q:Act→World→Prop} {k:Nat} {rest:List (Bool × Nat)} {a:Act} {w:World} {o:Oper} (ho:nth l k=some o)
  (h:wpQuiet P l.toArray (fun w'=>∃ n:Up w,w'=n.v) (fun a'=>wpPre P l.toArray Q rest a' w) [o] a):wpPre P l.toArray Q ((true,k) :: rest) a w:=⟨o,by rw [← ho,nth_is];simp,h⟩
def preB (md:Region.Mode) (ops:Array Oper) (E:List Nat):List (Bool × Nat)→Array Bool→Bool
 | [],_=>true
 | (false,k) :: rest,listed=>(Region.ready md ops listed).contains k && Region.free md ops listed k && (match ops[k]? with | some o=>plainOpF o.op | none=>false) && preB md ops E rest (listed.setIfInBounds k true)
 | (true,k) :: rest,listed=>(Region.ready md ops listed).contains k && Region.free md ops listed k && (match ops[k]? with | some o=>plainOpF o.op | none=>false) && descB md ops E listed k (descs md ops k) && preB md ops E rest (listed.setIfInBounds k true)
def listPre (listed:Array Bool) (ks:List (Bool × Nat)):Array Bool:=ks.foldl (fun b k=>b.setIfInBounds k.2 true) listed
theorem wpAnyE_pre {E:List Nat} {Q:Act→World→Prop} (hs:Region.noSelect ops=true) (fuel:Nat):∀ (ord:List (Bool × Nat)) (listed:Array Bool) (a:Act) (w:World),preB md ops E ord listed=true →
   wpPre P ops (wpAnyE P md ops E Q fuel (listPre listed ord)) ord a w→wpAnyE P md ops E Q (ord.length + fuel) listed a w
 | [],listed,a,w,_,h=>by rw [List.length_nil,Nat.zero_add];exact h
 | (false,k) :: rest,listed,a,w,hB,⟨o,ho,h⟩=>by
  simp only [preB,Bool.and_eq_true] at hB
  obtain ⟨⟨⟨hr,hf⟩,hp⟩,hB'⟩:=hB
  rw [ho] at hp
  obtain ⟨v,hy,hK⟩:=yieldsR_of_quietF (R:=fun _ _=>True) (w:=w) (fun w' _=>⟨⟨w'⟩,rfl⟩) hp h
  have:=wpAnyE_pre hs fuel rest (listed.setIfInBounds k true) _ w hB' hK
  rw [List.length_cons,show rest.length + 1 + fuel=rest.length + fuel + 1 by omega]
  exact wpAnyE_first (R:=fun _ _=>True) (fun _=>trivial) (fun _ _ _ _ _=>trivial) ho (Region.noSelect_spec hs) (fun _=>True) (fun _ _ _ _ _=>⟨fun _ _ _=>trivial,trivial⟩) (rest.length + fuel) listed a w (Region.free_spec ho hf) trivial (by simpa using hr) hy this
 | (true,k) :: rest,listed,a,w,hB,⟨o,ho,h⟩=>by
  simp only [preB,Bool.and_eq_true] at hB
  obtain ⟨⟨⟨⟨hr,hf⟩,hp⟩,hd⟩,hB'⟩:=hB
  rw [ho] at hp
  obtain ⟨hg,h2⟩:=descB_spec hd
  obtain ⟨v,hy,hK⟩:=yieldsR_of_quietF (R:=fun w w'=>Below w.heap.size w w') (w:=w) (fun w' hb=>⟨⟨w',hb⟩,rfl⟩) hp h
  have:=wpAnyE_pre hs fuel rest (listed.setIfInBounds k true) _ w hB' hK
  rw [List.length_cons,show rest.length + 1 + fuel=rest.length + fuel + 1 by omega]
  exact wpAnyE_first (R:=fun w w'=>Below w.heap.size w w') (fun w=>Below.refl _ w) (fun a b c h1 h2=>h1.trans (h2.mono h1.size)) ho (Region.noSelect_spec hs) (GoodD E (descs md ops k)) (fun listed j hg hj hji=>goodD_step h2 listed j hg hj hji) (rest.length + fuel) listed a w (Region.free_spec ho hf) hg (by simpa using hr) hy this
theorem eOp_make {E:List Nat} {K:Act→World→Prop} {l:List Oper} {k:Nat} {a:Act} {w:World} {o:Oper} (ho:nth l k=some o) (h:wpList P l.toArray (mixQ w K) [o] a w):eOp P l.toArray E k K a w:=by
 have ho':l.toArray[k]?=some o:=by rw [← ho,nth_is];simp
 unfold eOp
 simp only [ho']
 unfold wpList at h
 split
 ·rename_i hw
  simp only [hw,if_true] at h
  rcases h with h | ⟨_,_,_,hf⟩
  ·exact wp_of_safe (fun a w hk=>⟨Or.inr hk.1,hk.2⟩) (safe_of_wp (K:=K) h)
  ·exact absurd hf.1 (by simp)
 ·rename_i hw
  simp only [hw] at h
  exact h.2.2
theorem eOp_turn {E:List Nat} {K:Act→World→Prop} {l:List Oper} {k:Nat} {a:Act} {w:World} {o:Oper} (ho:nth l k=some o) (hE:k ∈ E) (h:wpList P l.toArray (turnQ K) [o] a w):eOp P l.toArray E k K a w:=by
 have ho':l.toArray[k]?=some o:=by rw [← ho,nth_is];simp
 unfold eOp
 simp only [ho']
 unfold wpList at h
 split
 ·rename_i hw
  simp only [hw,if_true] at h
  rcases h with h | ⟨_,_,_,hf⟩
  ·exact safe_of_turn hE (K:=K) h
  ·exact absurd hf.1 (by simp)
 ·rename_i hw
  simp only [hw] at h
  exact h.2
theorem any_all {E:List Nat} {Q:Act→World→Prop} {fuel:Nat} {listed:Array Bool} {a:Act} {w:World} (ks:List Nat) (hr:(decide (Region.ready md ops listed=ks) && !ks.isEmpty)=true) (h:∀ i ∈ ks,eOp P ops E i (wpAnyE P md ops E Q fuel (listed.setIfInBounds i true)) a w):wpAnyE P md ops E Q (fuel + 1) listed a w:=by
 simp only [Bool.and_eq_true,decide_eq_true_eq,Bool.not_eq_true'] at hr
 obtain ⟨hr,hn⟩:=hr
 refine ⟨fun h0=>?_,fun i hi=>h i (by rw [← hr];exact hi)⟩
 rw [hr] at h0
 rw [h0] at hn
 cases hn
theorem any_nil {E:List Nat} {Q:Act→World→Prop} {listed:Array Bool} {a:Act} {w:World} (hr:decide (Region.ready md ops listed=[])=true) (h:Q a w):wpAnyE P md ops E Q 0 listed a w:=⟨by simpa using hr,h⟩
theorem wp_region_pre {id:Nat} {Q:Exit→Act→World→Prop} {a:Act} {w:World} {l:List Oper} (ord:List (Bool × Nat)) (E:List Nat) (fuel:Nat) (hm:P.follows .mixedOrders=true)
  (hB:(Region.noSelect l.toArray && decide (ord.length + fuel=l.length) && preB .any l.toArray E ord (Array.replicate l.length false))=true)
  (h:wpPre P l.toArray (wpAnyE P .any l.toArray E (fun a' w'=>Q .normal a' w') fuel (listPre (Array.replicate l.length false) ord)) ord a w.drew):(Code.region id l.toArray true).wp P Q a w:=by
 simp only [Bool.and_eq_true,decide_eq_true_eq] at hB
 obtain ⟨⟨hs,hl⟩,hB⟩:=hB
 refine wp_region_any hm ?_
 have:=wpAny_of_E (Q':=Q) (fun a w h=>h) _ _ _ _ (wpAnyE_pre (md:=.any) hs fuel ord _ a w.drew hB h)
 rw [hl] at this
 simpa using this
end
end Go.Proofs.YtbleojodidbhiaaGreatDoor
namespace Go.Proofs.YtbleojodidbhiaaGreatDoor
open Go.RowKit
section
variable {P:Program} {ops:Array Oper} {md:Region.Mode} {T:World→World→Prop}
def MayT (T:World→World→Prop) (E:List Nat) (i:Nat) (w w':World):Prop:=i ∈ E∨T w w'
def eOpT (T:World→World→Prop) (P:Program) (ops:Array Oper) (E:List Nat) (i:Nat) (K:Act→World→Prop) (a:Act) (w:World):Prop:=
 match ops[i]? with
 | none=>K a w
 | some o=>if Region.wanted o (yielded ops a.tmps) then o.wp P a w (fun a' w'=>MayT T E i w w'∧K a' w') QF else K (a.put o.dst undef) w
def wpAnyG (T:World→World→Prop) (P:Program) (md:Region.Mode) (ops:Array Oper) (E:List Nat) (Q:Act→World→Prop):Nat→Array Bool→Act→World→Prop
 | 0,listed,a,w=>Region.ready md ops listed=[]∧Q a w
 | fuel + 1,listed,a,w=>(Region.ready md ops listed=[]→Q a w)∧∀ i ∈ Region.ready md ops listed,eOpT T P ops E i (wpAnyG T P md ops E Q fuel (listed.setIfInBounds i true)) a w
theorem wpOp_of_eOpG {E:List Nat} {i:Nat} {a:Act} {w:World} {K K':Act→World→Prop} {Q':Exit→Act→World→Prop} (h:∀ a w,K a w→K' a w) (hh:eOpT T P ops E i K a w):wpOp P ops Q' i K' a w:=by
 unfold eOpT at hh
 unfold wpOp
 split
 ·rename_i ho;simp only [ho] at hh;exact h _ _ hh
 ·rename_i o ho
  simp only [ho] at hh
  split
  ·rename_i hw;simp only [hw,if_true] at hh;exact .inl (wp_of_safe (fun a w hk=>h _ _ hk.2) hh)
  ·rename_i hw;simp only [hw] at hh;exact h _ _ hh
theorem wpAny_of_EG {E:List Nat} {Q:Act→World→Prop} {Q':Exit→Act→World→Prop} (hQ:∀ a w,Q a w→Q' .normal a w):∀ (fuel:Nat) (listed:Array Bool) (a:Act) (w:World),
  wpAnyG T P md ops E Q fuel listed a w→wpAny P md ops Q' fuel listed a w
 | 0,_,_,_,h=>⟨h.1,hQ _ _ h.2⟩
 | fuel + 1,_,_,_,h=>⟨fun h0=>hQ _ _ (h.1 h0),fun i hi=>wpOp_of_eOpG (fun a' w' h'=>wpAny_of_EG hQ fuel _ a' w' h') (h.2 i hi)⟩
theorem YieldsR.eOpG {R:World→World→Prop} {E:List Nat} (hT0:∀ w,T w w) (hR:∀ w,R w w) {i:Nat} {o:Oper} {v:Value} {a:Act} {w:World} (hi:ops[i]?=some o) (hy:YieldsR R P ops w o v a) {K:Act→World→Prop} (h:K (a.put o.dst v) w):eOpT T P ops E i K a w:=by
 unfold Go.Proofs.YtbleojodidbhiaaGreatDoor.eOpT
 simp only [hi]
 rcases hy with ⟨hw,hv⟩ | ⟨hw,rfl⟩
 ·simp only [hw,if_true]
  unfold Oper.wp
  rw [hv w (hR w)]
  exact ⟨Or.inr (hT0 _),h⟩
 ·simp only [hw,Bool.false_eq_true,if_false];exact h
theorem eOp_putG {R:World→World→Prop} (hR:∀ w,R w w) (hT:∀ a b c,R a b→R b c→R a c) {E:List Nat} {j:Nat} {oi oj:Oper} {v:Value} (hj:ops[j]?=some oj) (hap:oi.apart ops oj=true)
  (hsi:∀ cs b,oi.op ≠ .select cs b) (hsj:∀ cs b,oj.op ≠ .select cs b) (hm:∀ w w',MayT T E j w w'→R w w') {K:Act→World→Prop} {a:Act} {w:World}
  (hy:YieldsR R P ops w oi v a) (h:eOpT T P ops E j K (a.put oi.dst v) w) :
  eOpT T P ops E j (fun a' w'=>YieldsR R P ops w' oi v a'∧K (a'.put oi.dst v) w') a w:=by
 obtain ⟨h1,h2,h3⟩:=Oper.apart_spec hap
 unfold eOpT at *
 simp only [hj] at *
 rw [wanted_put oj a oi.dst v h1] at h
 split
 ·rename_i hw
  simp only [hw,if_true] at h
  exact wp_put (K:=fun a' w'=>MayT T E j w w'∧K a' w') (execOp_put oj hsj a oi.dst v h1) h2 (fun b w' u hb hk=>⟨hk.1,hy.keep hT (hm _ _ hk.1) hb hsi h3,hk.2⟩) h
 ·rename_i hw
  simp only [hw] at h
  exact ⟨hy.keep hT (hR _) rfl hsi h3,by rw [← Act.put_comm a v undef h2];exact h⟩
theorem eOp_monoG {E:List Nat} {i:Nat} {a:Act} {w:World} {K K':Act→World→Prop} (h:∀ a w,K a w→K' a w) (hh:eOpT T P ops E i K a w):eOpT T P ops E i K' a w:=by
 unfold eOpT at *
 split
 ·rename_i ho;simp only [ho] at hh;exact h _ _ hh
 ·rename_i o ho
  simp only [ho] at hh
  split
  ·rename_i hw;simp only [hw,if_true] at hh;exact wp_of_safe (fun a w hk=>⟨hk.1,h _ _ hk.2⟩) hh
  ·rename_i hw;simp only [hw] at hh;exact h _ _ hh
theorem wpAnyE_firstG {R:World→World→Prop} (hT0:∀ w,T w w) (hR:∀ w,R w w) (hT:∀ a b c,R a b→R b c→R a c) {E:List Nat} {Q:Act→World→Prop} {i:Nat} {oi:Oper} {v:Value} (hi:ops[i]?=some oi)
  (hsel:∀ (j:Nat) (o:Oper) cs b,ops[j]?=some o→o.op ≠ .select cs b) (G:Array Bool→Prop)
  (hG:∀ listed j,G listed→j ∈ Region.ready md ops listed→j ≠ i→(∀ w w',MayT T E j w w'→R w w')∧G (listed.setIfInBounds j true)) :
  ∀ (fuel:Nat) (listed:Array Bool) (a:Act) (w:World),
   (∀ j oj,ops[j]?=some oj→j ≠ i→listed.getD j true=false→(∀ e ∈ oj.after,Region.binds md e=true→e.on ≠ i)→oi.apart ops oj=true)→G listed →
   i ∈ Region.ready md ops listed→YieldsR R P ops w oi v a →
   wpAnyG T P md ops E Q fuel (listed.setIfInBounds i true) (a.put oi.dst v) w→wpAnyG T P md ops E Q (fuel + 1) listed a w:=by
 intro fuel
 induction fuel with
 | zero=>
  intro listed a w _ _ hr hy H
  refine ⟨fun h=>(by rw [h] at hr;cases hr),fun j hj=>?_⟩
  by_cases hji:j=i
  ·subst hji;exact hy.eOpG hT0 hR hi H
  ·have:=ready_mono hj hji
   rw [H.1] at this
   cases this
 | succ fuel ih=>
  intro listed a w hfree hg hr hy H
  refine ⟨fun h=>(by rw [h] at hr;cases hr),fun j hj=>?_⟩
  by_cases hji:j=i
  ·subst hji;exact hy.eOpG hT0 hR hi H
  ·have h1:=H.2 j (ready_mono hj hji)
   obtain ⟨hjun,oj,hoj,hall⟩:=mem_ready.1 hj
   have hnot:∀ e ∈ oj.after,Region.binds md e=true→e.on ≠ i:=fun e he hb heq=>by
    have h1:=hall e he hb
    have h0:=(mem_ready.1 hr).1
    rw [heq] at h1
    rcases Nat.lt_or_ge i listed.size with h' | h'
    ·simp [h'] at h0 h1;rw [h0] at h1;cases h1
    ·simp [Array.getElem?_eq_none h'] at h1
   obtain ⟨hmay,hg'⟩:=hG listed j hg hj hji
   have h2:=eOp_putG hR hT hoj (hfree j oj hoj hji hjun hnot) (fun cs b=>hsel i oi cs b hi) (fun cs b=>hsel j oj cs b hoj) hmay hy h1
   have hfree':∀ k ok,ops[k]?=some ok→k ≠ i→(listed.setIfInBounds j true).getD k true=false →
     (∀ e ∈ ok.after,Region.binds md e=true→e.on ≠ i)→oi.apart ops ok=true:=fun k ok hk hki hun hno=>by
    refine hfree k ok hk hki ?_ hno
    by_cases hjk:j=k
    ·subst hjk;exact hjun
    ·rw [getD_set_ne true hjk] at hun;exact hun
   refine eOp_monoG (fun a' w' h3=>ih (listed.setIfInBounds j true) a' w' hfree' hg' (ready_mono hr (Ne.symm hji)) h3.1 ?_) h2
   rw [Array.setIfInBounds_comm _ _ hji]
   exact h3.2
theorem goodD_stepG {E ds:List Nat} {i:Nat} (h2:∀ k ∈ ds,k=i∨∃ o,ops[k]?=some o∧∃ e ∈ o.after,Region.binds md e=true∧e.on ∈ ds) (listed:Array Bool) (j:Nat) (hg:GoodD E ds listed) (hj:j ∈ Region.ready md ops listed) (hji:j ≠ i) :
  (∀ w w',MayT T E j w w'→T w w')∧GoodD E ds (listed.setIfInBounds j true):=by
 obtain ⟨hjun,oj,hoj,hall⟩:=mem_ready.1 hj
 have hnd:j ∉ ds:=fun hd=>by
  rcases h2 j hd with h | ⟨o,ho,e,he,hb,hon⟩
  ·exact hji h
  ·rw [hoj] at ho
   obtain rfl:=Option.some.inj ho
   have h1:=hall e he hb
   have h0:=hg.1 _ hon
   rcases Nat.lt_or_ge e.on listed.size with h' | h'
   ·simp [h'] at h0 h1;rw [h0] at h1;cases h1
   ·simp [Array.getElem?_eq_none h'] at h1
 refine ⟨fun w w' hm=>?_,fun k hk=>?_,fun k hk=>?_⟩
 ·rcases hm with hm | hm
  ·rcases hg.2 j hm with h | h
   ·exact absurd h hnd
   ·rw [hjun] at h;cases h
  ·exact hm
 ·have hjk:j ≠ k:=fun e=>hnd (e ▸ hk)
  rw [getD_set_ne true hjk];exact hg.1 k hk
 ·rcases hg.2 k hk with h | h
  ·exact Or.inl h
  ·refine Or.inr ?_
   by_cases hjk:j=k
   ·subst hjk;rw [hjun] at h;cases h
   ·rw [getD_set_ne true hjk];exact h
theorem safe_of_turnG {E:List Nat} {i:Nat} (hE:i ∈ E) {o:Oper} {a:Act} {w:World} {K:Act→World→Prop} (hh:o.wp P a w (turnQ K .normal) (turnQ K)):o.wp P a w (fun a' w'=>MayT T E i w w'∧K a' w') QF:=by
 unfold Oper.wp at *
 generalize (execOp a.eval o).run P w=r at *
 cases r with
 | ok n w'=>
  cases n <;> simp only [Oper.upon] at hh ⊢ <;>
   first
    | exact ⟨Or.inl hE,hh.2⟩
    | exact Calls.mono hh (fun e w'' he=>by
      cases e
      ·exact ⟨Or.inl hE,he.2⟩
      ·exact absurd he.1 (by simp)
      ·obtain ⟨_,_,hf⟩:=he;exact absurd hf.1 (by simp))
    | exact Rows.mono hh (fun _ _ he=>⟨Or.inl hE,he.2⟩)
 | halt x w'=>
  cases x <;> simp only [Oper.upon] at hh ⊢
  exact absurd hh.1 (by simp)
def wpPreG (T:World→World→Prop) (P:Program) (ops:Array Oper) (Q:Act→World→Prop):List (Bool × Nat)→Act→World→Prop
 | [],a,w=>Q a w
 | (false,k) :: rest,a,w=>∃ o,ops[k]?=some o∧wpQuiet P ops (fun w'=>∃ n:AnyW,w'=n.v) (fun a'=>wpPreG T P ops Q rest a' w) [o] a
 | (true,k) :: rest,a,w=>∃ o,ops[k]?=some o∧wpQuiet P ops (fun w'=>∃ n:UpK T w,w'=n.v) (fun a'=>wpPreG T P ops Q rest a' w) [o] a
theorem preG_nil {Q:Act→World→Prop} {a:Act} {w:World} (h:Q a w):wpPreG T P ops Q [] a w:=h
theorem preG_p {l:List Oper} {Q:Act→World→Prop} {k:Nat} {rest:List (Bool × Nat)} {a:Act} {w:World} {o:Oper} (ho:nth l k=some o)
  (h:wpQuiet P l.toArray (fun w'=>∃ n:AnyW,w'=n.v) (fun a'=>wpPreG T P l.toArray Q rest a' w) [o] a):wpPreG T P l.toArray Q ((false,k) :: rest) a w:=⟨o,by rw [← ho,nth_is];simp,h⟩
theorem preG_q {l:List Oper} {Q:Act→World→Prop} {k:Nat} {rest:List (Bool × Nat)} {a:Act} {w:World} {o:Oper} (ho:nth l k=some o)
  (h:wpQuiet P l.toArray (fun w'=>∃ n:UpK T w,w'=n.v) (fun a'=>wpPreG T P l.toArray Q rest a' w) [o] a):wpPreG T P l.toArray Q ((true,k) :: rest) a w:=⟨o,by rw [← ho,nth_is];simp,h⟩
theorem wpAnyG_pre {E:List Nat} {Q:Act→World→Prop} (hT0:∀ w,T w w) (hTt:∀ a b c,T a b→T b c→T a c) (hs:Region.noSelect ops=true) (fuel:Nat):∀ (ord:List (Bool × Nat)) (listed:Array Bool) (a:Act) (w:World),preB md ops E ord listed=true →
   wpPreG T P ops (wpAnyG T P md ops E Q fuel (listPre listed ord)) ord a w→wpAnyG T P md ops E Q (ord.length + fuel) listed a w
 | [],listed,a,w,_,h=>by rw [List.length_nil,Nat.zero_add];exact h
 | (false,k) :: rest,listed,a,w,hB,⟨o,ho,h⟩=>by
  simp only [preB,Bool.and_eq_true] at hB
  obtain ⟨⟨⟨hr,hf⟩,hp⟩,hB'⟩:=hB
  rw [ho] at hp
  obtain ⟨v,hy,hK⟩:=yieldsR_of_quietF (R:=fun _ _=>True) (w:=w) (fun w' _=>⟨⟨w'⟩,rfl⟩) hp h
  have:=wpAnyG_pre hT0 hTt hs fuel rest (listed.setIfInBounds k true) _ w hB' hK
  rw [List.length_cons,show rest.length + 1 + fuel=rest.length + fuel + 1 by omega]
  exact wpAnyE_firstG (R:=fun _ _=>True) hT0 (fun _=>trivial) (fun _ _ _ _ _=>trivial) ho (Region.noSelect_spec hs) (fun _=>True) (fun _ _ _ _ _=>⟨fun _ _ _=>trivial,trivial⟩) (rest.length + fuel) listed a w (Region.free_spec ho hf) trivial (by simpa using hr) hy this
 | (true,k) :: rest,listed,a,w,hB,⟨o,ho,h⟩=>by
  simp only [preB,Bool.and_eq_true] at hB
  obtain ⟨⟨⟨⟨hr,hf⟩,hp⟩,hd⟩,hB'⟩:=hB
  rw [ho] at hp
  obtain ⟨hg,h2⟩:=descB_spec hd
  obtain ⟨v,hy,hK⟩:=yieldsR_of_quietF (R:=T) (w:=w) (fun w' hb=>⟨⟨w',hb⟩,rfl⟩) hp h
  have:=wpAnyG_pre hT0 hTt hs fuel rest (listed.setIfInBounds k true) _ w hB' hK
  rw [List.length_cons,show rest.length + 1 + fuel=rest.length + fuel + 1 by omega]
  exact wpAnyE_firstG (R:=T) hT0 hT0 hTt ho (Region.noSelect_spec hs) (GoodD E (descs md ops k)) (fun listed j hg hj hji=>goodD_stepG h2 listed j hg hj hji) (rest.length + fuel) listed a w (Region.free_spec ho hf) hg (by simpa using hr) hy this
theorem eOpG_keep {E:List Nat} {K:Act→World→Prop} {l:List Oper} {k:Nat} {a:Act} {w:World} {o:Oper} (ho:nth l k=some o) (h:wpList P l.toArray (keepQ T w K) [o] a w):eOpT T P l.toArray E k K a w:=by
 have ho':l.toArray[k]?=some o:=by rw [← ho,nth_is];simp
 unfold eOpT
 simp only [ho']
 unfold wpList at h
 split
 ·rename_i hw
  simp only [hw,if_true] at h
  rcases h with h | ⟨_,_,_,hf⟩
  ·exact wp_of_safe (fun a w hk=>⟨Or.inr hk.1,hk.2⟩) (safe_of_keep (K:=K) h)
  ·exact absurd hf.1 (by simp)
 ·rename_i hw
  simp only [hw] at h
  exact h.2.2
theorem eOpG_turn {E:List Nat} {K:Act→World→Prop} {l:List Oper} {k:Nat} {a:Act} {w:World} {o:Oper} (ho:nth l k=some o) (hE:k ∈ E) (h:wpList P l.toArray (turnQ K) [o] a w):eOpT T P l.toArray E k K a w:=by
 have ho':l.toArray[k]?=some o:=by rw [← ho,nth_is];simp
 unfold eOpT
 simp only [ho']
 unfold wpList at h
 split
 ·rename_i hw
  simp only [hw,if_true] at h
  rcases h with h | ⟨_,_,_,hf⟩
  ·exact safe_of_turnG hE (K:=K) h
  ·exact absurd hf.1 (by simp)
 ·rename_i hw
  simp only [hw] at h
  exact h.2
theorem anyG_all {E:List Nat} {Q:Act→World→Prop} {fuel:Nat} {listed:Array Bool} {a:Act} {w:World} (ks:List Nat) (hr:(decide (Region.ready md ops listed=ks) && !ks.isEmpty)=true) (h:∀ i ∈ ks,eOpT T P ops E i (wpAnyG T P md ops E Q fuel (listed.setIfInBounds i true)) a w):wpAnyG T P md ops E Q (fuel + 1) listed a w:=by
 simp only [Bool.and_eq_true,decide_eq_true_eq,Bool.not_eq_true'] at hr
 obtain ⟨hr,hn⟩:=hr
 refine ⟨fun h0=>?_,fun i hi=>h i (by rw [← hr];exact hi)⟩
 rw [hr] at h0
 rw [h0] at hn
 cases hn
theorem anyG_nil {E:List Nat} {Q:Act→World→Prop} {listed:Array Bool} {a:Act} {w:World} (hr:decide (Region.ready md ops listed=[])=true) (h:Q a w):wpAnyG T P md ops E Q 0 listed a w:=⟨by simpa using hr,h⟩
theorem wp_region_preG (T:World→World→Prop) {id:Nat} {Q:Exit→Act→World→Prop} {a:Act} {w:World} {l:List Oper} (ord:List (Bool × Nat)) (E:List Nat) (fuel:Nat) (hT0:∀ w,T w w) (hTt:∀ a b c,T a b→T b c→T a c) (hm:P.follows .mixedOrders=true)
  (hB:(Region.noSelect l.toArray && decide (ord.length + fuel=l.length) && preB .any l.toArray E ord (Array.replicate l.length false))=true)
  (h:wpPreG T P l.toArray (wpAnyG T P .any l.toArray E (fun a' w'=>Q .normal a' w') fuel (listPre (Array.replicate l.length false) ord)) ord a w.drew):(Code.region id l.toArray true).wp P Q a w:=by
 simp only [Bool.and_eq_true,decide_eq_true_eq] at hB
 obtain ⟨⟨hs,hl⟩,hB⟩:=hB
 refine wp_region_any hm ?_
 have:=wpAny_of_EG (Q':=Q) (fun a w h=>h) _ _ _ _ (wpAnyG_pre (md:=.any) hT0 hTt hs fuel ord _ a w.drew hB h)
 rw [hl] at this
 simpa using this
end
end Go.Proofs.YtbleojodidbhiaaGreatDoor
