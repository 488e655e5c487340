/-  -/
import Derived.Test.YtbleojodidbhiaaGreatDoorBnD
import Derived.Test.YtbleojodidbhiaaGreatDoorShelf
namespace Go.Proofs.YtbleojodidbhiaaGreatDoor
open Go.RowKit
def isAt (t:Int) (v:Vr):Bool:=decide (v.fr≤t) && (decide (v.to=0) || decide (t < v.to))
def isK (id:Int) (v:Vr):Bool:=decide (v.ev.id=id) && decide (v.to=0)
set_option maxHeartbeats 1000000 in
theorem at_any (x:Vr) (t:Int) (B:Nat) (w:World) (hB:B < w.heap.size) (hc:w.cell? ⟨B,0,none⟩=some (.int .i64 t)) :
  Calls Tryz.prog 47 #[vrV x,.pointer (some ⟨B,0,none⟩)] w fun e w'=>e = .returned (.bool (isAt t x))∧Below w.heap.size w w':=by
 obtain ⟨⟨id,item,kind,qty,price,ofI,day⟩,fr,upTo⟩:=x
 unfold vrV isAt
 simp only
 have hne:B ≠ w.heap.size:=by omega
 by_cases h1:fr≤t
 ·by_cases h2:upTo=0
  ·go_enter Tryz.func47,Tryz.ntmps47
   go_wp2
   go_ret
   exact ⟨by simp [h1,h2],(Below.refl _ _).alloc (Nat.le_refl _) _⟩
  ·have h2':decide (upTo=0)=false:=by simpa using h2
   by_cases h3:t < upTo
   ·go_enter Tryz.func47,Tryz.ntmps47
    go_wp2
    go_ret
    exact ⟨by simp [h1,h3],(Below.refl _ _).alloc (Nat.le_refl _) _⟩
   ·go_enter Tryz.func47,Tryz.ntmps47
    go_wp2
    go_ret
    exact ⟨by have h4:decide (t < upTo)=false:=(by simp;omega);simp [h4,h2],(Below.refl _ _).alloc (Nat.le_refl _) _⟩
 ·have h1':decide (fr≤t)=false:=by simpa using h1
  go_enter Tryz.func47,Tryz.ntmps47
  go_wp2
  go_ret
  exact ⟨by simp,(Below.refl _ _).alloc (Nat.le_refl _) _⟩
set_option maxHeartbeats 1000000 in
theorem isk_any (x:Vr) (t:Int) (B:Nat) (w:World) (hB:B < w.heap.size) (hc:w.cell? ⟨B,0,none⟩=some (.int .i64 t)) :
  Calls Tryz.prog 206 #[vrV x,.pointer (some ⟨B,0,none⟩)] w fun e w'=>e = .returned (.bool (isK t x))∧Below w.heap.size w w':=by
 obtain ⟨⟨id,item,kind,qty,price,ofI,day⟩,fr,upTo⟩:=x
 unfold vrV isK
 simp only
 have hne:B ≠ w.heap.size:=by omega
 by_cases h1:id=t
 ·subst h1
  by_cases h2:upTo=0
  ·go_enter Tryz.func206,Tryz.ntmps206
   go_wp2
   go_ret
   exact ⟨by simp [h2],(Below.refl _ _).alloc (Nat.le_refl _) _⟩
  ·have h2':decide (upTo=0)=false:=by simpa using h2
   go_enter Tryz.func206,Tryz.ntmps206
   go_wp2
   go_ret
   exact ⟨by simp [h2],(Below.refl _ _).alloc (Nat.le_refl _) _⟩
 ·have h1':decide (id=t)=false:=by simpa using h1
  go_enter Tryz.func206,Tryz.ntmps206
  go_wp2
  go_ret
  exact ⟨by simp [h1],(Below.refl _ _).alloc (Nat.le_refl _) _⟩
def LooksAt (g:Nat) (lb:Array Value) (p:Vr→Bool) (w:World):Prop:=
 ∀ (W:World) (x:Vr),Below w.heap.size w W→Calls Tryz.prog g (#[vrV x] ++ lb) W fun e w'=>e = .returned (.bool (p x))∧Below W.heap.size W w'
theorem flatMap_snoc {α:Type} (f:α→List Value) (l:List α) (x:α):(l ++ [x]).flatMap f=l.flatMap f ++ f x:=by simp
theorem filter_snoc {α:Type} (p:α→Bool) (l:List α) (k:Nat) (hk:k < l.length):(l.take (k + 1)).filter p=(l.take k).filter p ++ if p l[k] then [l[k]] else []:=by
 rw [List.take_succ_eq_append_getElem hk,List.filter_append]
 congr 1
 by_cases h:p l[k] <;> simp [h]
def vrZ:Value:=.agg #[.int .i64 0,.string ⟨#[]⟩,.int .i64 0,.int .i64 0,.int .i64 0,.int .i64 0,.int .i64 0,.int .i64 0,.int .i64 0]
theorem Tryz.infoVr:(Tryz.prog.info? 95).map (fun i=>(i.zero,i.size,i.bytes))=some (some vrZ,9,80):=by kernel_rfl
set_option maxHeartbeats 4000000 in
theorem those_some (vs:List Vr) (pb g cap B:Nat) (f:Nat) (lb:Array Value) (p:Vr→Bool) (w:World)
  (hc0:w.cell? ⟨pb,0,none⟩=some (.slice (some ⟨g,0,none⟩) vs.length cap)) (hown:w.ownsRow B 95 9 (.slice (some ⟨g,0,none⟩) vs.length cap) vs.length (vs.flatMap vrC))
  (hl:vs.length≤1000000) (eg:∀ args w,(callFunc f args).run Tryz.prog w = .ok (.enter f args) w) (hp:LooksAt f lb p w) :
  Calls Tryz.prog 46 #[.pointer (some ⟨pb,0,none⟩),.func (.func f) #[] lb] w fun e w'=>∃ v,e = .returned v∧w'.ownsRow w.heap.size 95 9 v (vs.filter p).length ((vs.filter p).flatMap vrC)∧Below w.heap.size w w':=by
 have hgl:g < w.heap.size:=by
  rcases own_form hown with ⟨h,_⟩ | ⟨g',cap',h,_,hg,_⟩
  ·cases h
  ·cases h;exact hg
 obtain ⟨i0,hi,hz0,hz1,hz2⟩:=info_parts Tryz.infoVr
 go_enter Tryz.func46,Tryz.ntmps46
 go_wp2
 go_loopw [5,13] (fun v i wr=>∃ k:Nat,k≤vs.length∧i = .int .i64 k∧wr.ownsRow w.heap.size 95 9 v ((vs.take k).filter p).length (((vs.take k).filter p).flatMap vrC)∧Below w.heap.size w wr)
  (fun _ i _=>vs.length - (intOf i).toNat)
 case atStart=>exact ⟨0,Nat.zero_le _,rfl,World.ownsRow_nil _ _ _ _,Below.refl _ _⟩
 case round=>
  obtain ⟨k,hk,rfl,hv,hb⟩:=hrel
  by_cases hlt:k < vs.length
  ·obtain ⟨x,hx⟩:∃ x,x=vs[k]:=⟨_,rfl⟩
   have hcw:∀ j,j < 9→wr.cell? ⟨g,k * 9 + j,none⟩=(vrC x)[j]?:=fun j hj=>by
    rw [hb.cell (p:=⟨g,k * 9 + j,none⟩) hgl,(own_cell vrC_len hown k j hlt hj).1,hx]
   have HF:=filter_snoc p vs k hlt
   rw [← hx] at HF
   have hfl:((vs.take k).filter p).length≤1000000:=Nat.le_trans (List.length_filter_le _ _) (by rw [List.length_take];omega)
   have HC:=hp
   obtain ⟨⟨id,item,kind,qty,price,ofI,day⟩,fr,upTo⟩:=x
   obtain ⟨o,ho⟩:∃ o,o=Obj.cells #[.int .i64 id,.string item,.int .i64 kind,.int .i64 qty,.int .i64 price,.int .i64 ofI,.int .i64 day,.int .i64 fr,.int .i64 upTo] 95:=⟨_,rfl⟩
   have hcall:=hp (wr.alloc o) ⟨⟨id,item,kind,qty,price,ofI,day⟩,fr,upTo⟩ (hb.alloc hb.size _)
   have q0:=hcw 0 (by omega)
   have q1:=hcw 1 (by omega)
   have q2:=hcw 2 (by omega)
   have q3:=hcw 3 (by omega)
   have q4:=hcw 4 (by omega)
   have q5:=hcw 5 (by omega)
   have q6:=hcw 6 (by omega)
   have q7:=hcw 7 (by omega)
   have q8:=hcw 8 (by omega)
   simp only [vrC,List.getElem?_cons_zero,List.getElem?_cons_succ,Nat.add_zero] at q0 q1 q2 q3 q4 q5 q6 q7 q8
   clear hcw HC
   have HX:Hid (_=vs[k]):=hx
   clear hx
   have HF':Hid (_=_):=HF
   clear HF
   have HO:Hid (wr.ownsRow _ _ _ _ _ _):=hv
   clear hv
   unfold vrV at hcall
   simp only at hcall
   go_wp2_with fail
   rw [← ho]
   refine hcall.mono ?_
   rintro e w1 ⟨rfl,hb1⟩
   have HO1:Hid (w1.ownsRow w.heap.size 95 9 u5 ((vs.take k).filter p).length (((vs.take k).filter p).flatMap vrC)):=own_below (HO.out.alloc o) hb1 (Nat.le_refl _)
   have hbw:Below w.heap.size w w1:=(hb.alloc hb.size o).trans (hb1.mono (by have:=hb.size;simp;omega))
   have hcx:∀ j:Nat,w1.cell? ⟨wr.heap.size,j,none⟩=(wr.alloc o).cell? ⟨wr.heap.size,j,none⟩:=fun j=>hb1.cell (p:=⟨wr.heap.size,j,none⟩) (by simp)
   rw [ho] at hcx
   have r0:=hcx 0
   have r1:=hcx 1
   have r2:=hcx 2
   have r3:=hcx 3
   have r4:=hcx 4
   have r5:=hcx 5
   have r6:=hcx 6
   have r7:=hcx 7
   have r8:=hcx 8
   simp at r0 r1 r2 r3 r4 r5 r6 r7 r8
   clear hcx HO hcall hb1 ho q0 q1 q2 q3 q4 q5 q6 q7 q8
   cases hpx:p ⟨⟨id,item,kind,qty,price,ofI,day⟩,fr,upTo⟩ with
   | true=>
    rw [hpx] at HF'
    go_wp2_with (first
     | (at_builtin;refine wpList_append_own _ rfl _ _ 29 rfl w.heap.size 95 i0 vrZ 9 80 Tryz.underlying29 hi hz0 hz1 hz2 rfl (by decide) _ _ _ rfl (HO1.out.alloc _) ⟨w1.heap.size,0,none⟩ 1 1 (vrC ⟨⟨id,item,kind,qty,price,ofI,day⟩,fr,upTo⟩) rfl rfl ?c1 ?c2 ?c3 ?c4 ?c5 ?_)
     | go_in)
    case c1=>exact cells_of_list rfl
    case c2=>exact vrC_one _
    case c3=>unfold maxLen;omega
    case c4=>omega
    case c5=>have:=hbw.size;simp;omega
    ·intro v' w2 hown2 hgr _
     go_wp2
     go_roundw
     case rel=>
      refine ⟨k + 1,by omega,by go_num,?_,?_⟩
      ·rw [HF'.out]
       simpa using hown2
      ·exact (hbw.alloc hbw.size _).grown hgr (by have:=hbw.size;simp;omega) (fun j hj=>(HO1.out.lt j hj).1)
     case measure=>simp [intOf];omega
   | false=>
    rw [hpx] at HF'
    go_wp2
    go_roundw
    case rel=>
     refine ⟨k + 1,by omega,by go_num,?_,hbw⟩
     rw [HF'.out]
     simpa using HO1.out
    case measure=>simp [intOf];omega
  ·go_wp2
   go_ret
   refine ⟨_,rfl,?_,hb⟩
   have e:k=vs.length:=by omega
   subst e
   simpa using hv
structure BookAt (w:World) (B pb:Nat) (sv:Value) (b:Bk):Prop where
 c0:w.cell? ⟨pb,0,none⟩=some sv
 c1:w.cell? ⟨pb,1,none⟩=some (.int .i64 b.n)
 c2:w.cell? ⟨pb,2,none⟩=some (.int .i64 b.g)
 f0:w.frozen? ⟨pb,0,none⟩=false
 f1:w.frozen? ⟨pb,1,none⟩=false
 f2:w.frozen? ⟨pb,2,none⟩=false
 own:w.ownsRow B 95 9 sv b.vs.length (b.vs.flatMap vrC)
 ne:sv.ownBlock ≠ some pb
 ge:B≤pb
theorem BookAt.lt {w:World} {B pb:Nat} {sv:Value} {b:Bk} (h:BookAt w B pb sv b):pb < w.heap.size:=World.block_lt_of_cell? _ _ h.c0
theorem BookAt.below {w w':World} {B pb:Nat} {sv:Value} {b:Bk} (h:BookAt w B pb sv b) (hb:Below w.heap.size w w'):BookAt w' B pb sv b:=
 ⟨below_cell hb h.c0,below_cell hb h.c1,below_cell hb h.c2,(hb.frozen (p:=⟨pb,0,none⟩) h.lt).trans h.f0,(hb.frozen (p:=⟨pb,1,none⟩) h.lt).trans h.f1,(hb.frozen (p:=⟨pb,2,none⟩) h.lt).trans h.f2,own_below h.own hb (Nat.le_refl _),h.ne,h.ge⟩
theorem BookAt.block {w:World} {B pb:Nat} {sv:Value} {b:Bk} (h:BookAt w B pb sv b):∀ k,sv.ownBlock=some k→B≤k∧k < w.heap.size:=h.own.lt
theorem Turned.below {w0 w w':World} {B pb:Nat} {sv:Value} {b:Bk} (h:Turned w w' pb sv) (ha:BookAt w B pb sv b) (hb:Below B w0 w) (hB:B≤w.heap.size):Below B w0 w':=
 hb.trans ⟨h.os,h.tape,h.output,h.size,fun k hk=>h.block k (by omega) (by have:=ha.ge;omega) (fun e=>by have:=(ha.block k e).1;omega)⟩
theorem BookAt.put0 {w:World} {B pb:Nat} {sv sv':Value} {b:Bk} {vs:List Vr} (c0:w.cell? ⟨pb,0,none⟩=some sv) (c1:w.cell? ⟨pb,1,none⟩=some (.int .i64 b.n)) (c2:w.cell? ⟨pb,2,none⟩=some (.int .i64 b.g))
  (f0:w.frozen? ⟨pb,0,none⟩=false) (f1:w.frozen? ⟨pb,1,none⟩=false) (f2:w.frozen? ⟨pb,2,none⟩=false) (own:w.ownsRow B 95 9 sv' vs.length (vs.flatMap vrC)) (ne:sv'.ownBlock ≠ some pb) (ge:B≤pb) :
  BookAt (w.setCell ⟨pb,0,none⟩ sv') B pb sv' { b with vs:=vs }:=
 ⟨set_same c0,(set_other (by simp)).trans c1,(set_other (by simp)).trans c2,set_frz.trans f0,set_frz.trans f1,set_frz.trans f2,ownsRow_setCell_other own ne _,ne,ge⟩
theorem BookAt.put1 {w:World} {B pb:Nat} {sv:Value} {b:Bk} (h:BookAt w B pb sv b) (n:Int):BookAt (w.setCell ⟨pb,1,none⟩ (.int .i64 n)) B pb sv { b with n:=n }:=
 ⟨(set_other (by simp)).trans h.c0,set_same h.c1,(set_other (by simp)).trans h.c2,set_frz.trans h.f0,set_frz.trans h.f1,set_frz.trans h.f2,ownsRow_setCell_other h.own h.ne _,h.ne,h.ge⟩
theorem BookAt.put2 {w:World} {B pb:Nat} {sv:Value} {b:Bk} (h:BookAt w B pb sv b) (n:Int):BookAt (w.setCell ⟨pb,2,none⟩ (.int .i64 n)) B pb sv { b with g:=n }:=
 ⟨(set_other (by simp)).trans h.c0,(set_other (by simp)).trans h.c1,set_same h.c2,set_frz.trans h.f0,set_frz.trans h.f1,set_frz.trans h.f2,ownsRow_setCell_other h.own h.ne _,h.ne,h.ge⟩
set_option maxHeartbeats 1000000 in
theorem those_nil (pb:Nat) (f:Nat) (lb:Array Value) (w:World) (hc0:w.cell? ⟨pb,0,none⟩=some (.slice none 0 0)) :
  Calls Tryz.prog 46 #[.pointer (some ⟨pb,0,none⟩),.func (.func f) #[] lb] w fun e w'=>e = .returned (.slice none 0 0)∧w'=w:=by
 go_enter Tryz.func46,Tryz.ntmps46
 go_wp2
 refine wp_loop_rounds 1 ?_
 rw [rounds_succ]
 go_wp2
 go_ret
 exact ⟨rfl,rfl⟩
theorem those_any {B pb:Nat} {sv:Value} {b:Bk} {w:World} (h:BookAt w B pb sv b) (hl:b.vs.length≤1000000) (f:Nat) (lb:Array Value) (p:Vr→Bool)
  (eg:∀ args w,(callFunc f args).run Tryz.prog w = .ok (.enter f args) w) (hp:LooksAt f lb p w) :
  Calls Tryz.prog 46 #[.pointer (some ⟨pb,0,none⟩),.func (.func f) #[] lb] w fun e w'=>∃ v,e = .returned v∧w'.ownsRow w.heap.size 95 9 v (b.vs.filter p).length ((b.vs.filter p).flatMap vrC)∧Below w.heap.size w w':=by
 rcases own_form h.own with ⟨hv,hn,hx⟩ | ⟨g,cap,hv,_⟩
 ·subst hv
  have e:b.vs=[]:=List.length_eq_zero_iff.1 hn
  refine (those_nil pb f lb w h.c0).mono ?_
  rintro e' w' ⟨rfl,rfl⟩
  exact ⟨_,rfl,by rw [e];exact World.ownsRow_nil _ _ _ _,Below.refl _ _⟩
 ·subst hv
  exact those_some b.vs pb g cap B f lb p w h.c0 h.own hl eg hp
def kIx (vs:List Vr) (id:Int):Int:=Lib.idxBy (fun _ y=>isK id y) vs default
theorem kIx_spec (vs:List Vr) (id:Int):(kIx vs id = -1∧∀ v ∈ vs,isK id v=false)∨∃ (k:Nat) (h:k < vs.length),kIx vs id=k∧isK id vs[k]=true∧∀ j (hj:j < vs.length),j < k→isK id vs[j]=false:=by
 have gen:∀ (zs:List Vr) (i:Nat),(Lib.idxByFrom (fun _ y=>isK id y) default zs i = -1∧∀ v ∈ zs,isK id v=false)∨∃ (k:Nat) (h:k < zs.length),Lib.idxByFrom (fun _ y=>isK id y) default zs i=(i + k:Nat)∧isK id zs[k]=true∧∀ j (hj:j < zs.length),j < k→isK id zs[j]=false:=by
  intro zs
  induction zs with
  | nil=>intro i;exact Or.inl ⟨rfl,fun v hv=>by cases hv⟩
  | cons z zs ih=>
   intro i
   cases hz:isK id z with
   | true=>exact Or.inr ⟨0,by simp,by simp [Lib.idxByFrom,hz],by simpa using hz,fun j hj h0=>absurd h0 (Nat.not_lt_zero _)⟩
   | false=>
    rcases ih (i + 1) with ⟨h1,h2⟩ | ⟨k,hk,h1,h2,h3⟩
    ·refine Or.inl ⟨by simp only [Lib.idxByFrom,hz];exact h1,fun v hv=>?_⟩
     rcases List.mem_cons.1 hv with rfl | hv
     ·exact hz
     ·exact h2 v hv
    ·refine Or.inr ⟨k + 1,by simpa using hk,?_,by simpa using h2,fun j hj hjk=>?_⟩
     ·simp only [Lib.idxByFrom,hz]
      rw [show (if (false=true) then ((i:Nat):Int) else Lib.idxByFrom (fun _ y=>isK id y) default zs (i + 1))=Lib.idxByFrom (fun _ y=>isK id y) default zs (i + 1) from rfl,h1]
      congr 1
      omega
     ·cases j with
      | zero=>exact hz
      | succ j=>simpa using h3 j (by simpa using hj) (by omega)
 rcases gen vs 0 with h | ⟨k,hk,h1,h2,h3⟩
 ·exact Or.inl h
 ·exact Or.inr ⟨k,hk,by rw [Nat.zero_add] at h1;exact h1,h2,h3⟩
set_option maxHeartbeats 1000000 in
theorem idx_nil (f:Nat) (lb:Array Value) (w:World) :
  Calls Tryz.prog 205 #[.slice none 0 0,.func (.func f) #[] lb] w fun e w'=>e = .returned (.int .i64 (-1))∧w'=w:=by
 go_enter Tryz.func205,Tryz.ntmps205
 go_wp2
 refine wp_loop_rounds 1 ?_
 rw [rounds_succ]
 go_wp2
 go_ret
 exact ⟨rfl,rfl⟩
theorem idx_any {B:Nat} {sv:Value} {vs:List Vr} {w:World} (h:w.ownsRow B 95 9 sv vs.length (vs.flatMap vrC)) (hl:vs.length≤1000000) (f:Nat) (lb:Array Value) (p:Vr→Bool)
  (eg:∀ args w,(callFunc f args).run Tryz.prog w = .ok (.enter f args) w) (hp:LooksAt f lb p w) :
  Calls Tryz.prog 205 #[sv,.func (.func f) #[] lb] w fun e w'=>e = .returned (.int .i64 (Lib.idxBy (fun _ y=>p y) vs default))∧Below w.heap.size w w':=by
 rcases own_form h with ⟨hv,hn,hx⟩ | ⟨g,cap,hv,_,hg,_⟩
 ·subst hv
  have e:vs=[]:=List.length_eq_zero_iff.1 hn
  refine (idx_nil f lb w).mono ?_
  rintro e' w' ⟨rfl,rfl⟩
  exact ⟨by rw [e];rfl,Below.refl _ _⟩
 ·subst hv
  have hcon:=AnyQ.slices_IndexFunc Tryz.idxF 9 Tryz.isAgg95 Tryz.sizeOf95 vrC vrC_len p f lb eg g 0 vs.length cap vs w
   (fun W x hb=>(hp W x hb).mono fun _ _ ⟨he,hb'⟩=>⟨he,hb.trans (hb'.mono hb.size)⟩) (Nat.le_refl _) (by omega) hg (fun j hj i v hi=>by
    have hi9:i < 9:=by
     have:=(List.getElem?_eq_some_iff.1 hi).1
     rw [vrC_len] at this;exact this
    rw [Nat.zero_add,(own_cell vrC_len h j i hj hi9).1,← hi,getElem!_pos vs j hj])
  rw [List.take_length] at hcon
  exact hcon
set_option maxHeartbeats 1000000 in
theorem known_any {B pb:Nat} {sv:Value} {b:Bk} {w:World} (h:BookAt w B pb sv b) (hl:b.vs.length≤1000000) (id:Int) :
  Calls Tryz.prog 164 #[.pointer (some ⟨pb,0,none⟩),.int .i64 id] w fun e w'=>e = .returned (.int .i64 (kIx b.vs id))∧Below w.heap.size w w':=by
 have hB1:Below w.heap.size w (w.alloc (.cells #[.int .i64 id] 3)):=(Below.refl _ _).alloc (Nat.le_refl _) _
 have c0:=(h.below hB1).c0
 have hcon:=idx_any (h.below hB1).own hl 206 #[.pointer (some ⟨w.heap.size,0,none⟩)] (isK id) (enters_of Tryz.func206 (by kernel_rfl) rfl)
  (fun W x hb=>isk_any x id w.heap.size W (by have:=hb.size;simp at this;omega) (below_cell hb (by simp)))
 clear h
 go_enter Tryz.func164,Tryz.ntmps164
 go_wp2_with fail
 refine hcon.mono ?_
 rintro e w' ⟨rfl,hb⟩
 go_wp2
 go_ret
 exact ⟨rfl,hB1.trans (hb.mono (by simp))⟩
def errV (k:Int):Value:=if k=0 then .nilIface else .iface 69 (.int .i64 k)
def TakesE (b:Bk) (e:Ev) (k:Int):Prop:=(k=1∧¬ Rt e)∨(k=12∧Rt e∧120≤b.vs.length)∨(k=0∧Rt e∧b.vs.length < 120)
theorem own_len {w:World} {B:Nat} {T:TypeId} {m n:Nat} {v:Value} {xs:List Value} (h:w.ownsRow B T m v n xs):∃ ad cap,v = .slice ad n cap:=by
 rcases own_form h with ⟨hv,hn,hx⟩ | ⟨g,cap,hv,_⟩
 ·exact ⟨none,0,by rw [hv,hn]⟩
 ·exact ⟨_,_,hv⟩
set_option maxRecDepth 20000 in
set_option maxHeartbeats 2000000 in
theorem takes_any {B pb:Nat} {sv:Value} {b:Bk} {w:World} (h:BookAt w B pb sv b) (hl:b.vs.length≤1000000) (e:Ev) (he:EvW e) :
  Calls Tryz.prog 160 #[.pointer (some ⟨pb,0,none⟩),evV e] w fun r w'=>∃ k,TakesE b e k∧r = .returned (errV k)∧Below w.heap.size w w':=by
 obtain ⟨ad,cap,hsv⟩:=own_len h.own
 have hr:=fun W=>right_any e W he
 have HR:Hid (∀ k:Int,TakesE b e k ↔ ((k=1∧¬ Rt e)∨(k=12∧Rt e∧120≤b.vs.length)∨(k=0∧Rt e∧b.vs.length < 120))):=fun k=>Iff.rfl
 obtain ⟨id,item,kind,qty,price,ofI,day⟩:=e
 unfold evV
 simp only
 go_enter Tryz.func160,Tryz.ntmps160
 go_wp2_with fail
 refine (hr _).mono ?_
 rintro e1 w1 ⟨⟨bb,rfl,hbb⟩,hb1⟩
 have hB:Below w.heap.size w w1:=((Below.refl _ _).alloc (Nat.le_refl _) _).trans (hb1.mono (by simp))
 have c0:=(h.below hB).c0
 rw [hsv] at c0
 have HBB:Hid (bb=true ↔ Rt ⟨id,item,kind,qty,price,ofI,day⟩):=hbb
 clear hbb h hr hb1 hsv
 cases bb with
 | false=>
  go_wp2
  go_ret
  exact ⟨1,(HR.out 1).2 (Or.inl ⟨rfl,fun h=>Bool.noConfusion (HBB.out.2 h)⟩),rfl,hB⟩
 | true=>
  by_cases h12:120≤b.vs.length
  ·go_wp2
   go_ret
   exact ⟨12,(HR.out 12).2 (Or.inr (Or.inl ⟨rfl,HBB.out.1 (by trivial),h12⟩)),rfl,hB⟩
  ·go_wp2
   go_ret
   exact ⟨0,(HR.out 0).2 (Or.inr (Or.inr ⟨rfl,HBB.out.1 (by trivial),by omega⟩)),rfl,hB⟩
end Go.Proofs.YtbleojodidbhiaaGreatDoor
