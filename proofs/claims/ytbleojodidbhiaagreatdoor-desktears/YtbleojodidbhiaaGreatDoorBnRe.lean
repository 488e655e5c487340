/-  -/
import Derived.Test.YtbleojodidbhiaaGreatDoorCoRun
import Derived.Test.YtbleojodidbhiaaGreatDoorBnM
import Derived.Test.YtbleojodidbhiaaGreatDoorBnQ
namespace Go.Proofs.YtbleojodidbhiaaGreatDoor
open Go.RowKit Go.Shelf
set_option maxHeartbeats 1000000 in
theorem idx_ev (l:List Ev) (ao:Option Addr) (cap:Nat) (w:World) (h:EvsC w ao l) (hl:l.length≤1000000) (f:Nat) (lb:Array Value) (p:Ev→Bool) (ef:∀ args w,(callFunc f args).run Tryz.prog w = .ok (.enter f args) w)
  (hf:∀ (e:Ev) (W:World),Below w.heap.size w W→Calls Tryz.prog f (#[evV e] ++ lb) W fun r w'=>r = .returned (.bool (p e))∧Below W.heap.size W w') :
  Calls Tryz.prog 246 #[.slice ao l.length cap,.func (.func f) #[] lb] w fun r w'=>∃ i:Int,r = .returned (.int .i64 i)∧Found p l i∧Below w.heap.size w w':=by
 have HF:Hid (∀ (e:Ev) (W:World),Below w.heap.size w W→Calls Tryz.prog f (#[evV e] ++ lb) W fun r w'=>r = .returned (.bool (p e))∧Below W.heap.size W w'):=hf
 have HL:Hid (EvsC w ao l):=h
 clear hf h
 go_enter Tryz.func246,Tryz.ntmps246
 go_wp2
 go_loopw [8] (fun i wr=>∃ k:Nat,k≤l.length∧i = .int .i64 k∧Hid (∀ j (hj:j < l.length),j < k→p l[j]=false)∧Below w.heap.size w wr) (fun i _=>l.length - (intOf i).toNat)
 case atStart=>exact ⟨0,Nat.zero_le _,rfl,fun j _ hj=>absurd hj (Nat.not_lt_zero _),Below.refl _ _⟩
 case round=>
  obtain ⟨k,hk,rfl,HN,hb⟩:=hrel
  by_cases hlt:k < l.length
  ·obtain ⟨g,o,hao,hg,hc⟩:=HL.out.below hb (by omega)
   subst hao
   obtain ⟨x,hx⟩:∃ x,x=l[k]:=⟨_,rfl⟩
   have hcw:∀ j,j < 7→wr.cell? ⟨g,o + k * 7 + j,none⟩=(evC x)[j]?:=fun j hj=>by rw [hc k hlt j hj,hx]
   have HY:Hid (l[k]=x):=hx.symm
   have hcall:=HF.out x wr hb
   unfold evV at hcall
   obtain ⟨id,item,kind,qty,price,ofI,day⟩:=x
   have q0:=hcw 0 (by omega)
   have q1:=hcw 1 (by omega)
   have q2:=hcw 2 (by omega)
   have q3:=hcw 3 (by omega)
   have q4:=hcw 4 (by omega)
   have q5:=hcw 5 (by omega)
   have q6:=hcw 6 (by omega)
   simp only [evC,List.getElem?_cons_zero,List.getElem?_cons_succ,Nat.add_zero] at q0 q1 q2 q3 q4 q5 q6
   simp only at hcall
   clear hcw hc hx
   generalize hpv:p ⟨id,item,kind,qty,price,ofI,day⟩=pv at hcall
   have HPV:Hid (p l[k]=pv):=by rw [HY.out];exact hpv
   clear hpv
   go_wp2_with fail
   refine hcall.mono ?_
   rintro e w1 ⟨rfl,hb1⟩
   have hb2:Below w.heap.size w w1:=hb.trans (hb1.mono hb.size)
   clear hcall q0 q1 q2 q3 q4 q5 q6
   cases pv with
   | true=>
    go_wp2
    go_ret
    exact ⟨k,rfl,Or.inr ⟨k,hlt,rfl,HPV.out,HN.out⟩,hb2⟩
   | false=>
    go_wp2
    go_roundw
    case rel=>
     refine ⟨k + 1,by omega,by go_num,fun j hj hjk=>?_,hb2⟩
     rcases Nat.lt_or_eq_of_le (Nat.le_of_lt_succ hjk) with x | x
     ·exact HN.out j hj x
     ·subst x;exact HPV.out
    case measure=>simp [intOf];omega
  ·obtain rfl:k=l.length:=by omega
   go_wp2
   go_ret
   exact ⟨-1,rfl,Or.inl ⟨rfl,fun y hy=>by
    obtain ⟨j,hj,rfl⟩:=List.getElem_of_mem hy
    exact HN.out j hj hj⟩,hb⟩
theorem Found.any {α:Type} {p:α→Bool} {l:List α} {r:Int} (h:Found p l r):l.any p=decide (0≤r):=by
 rcases h with ⟨rfl,h⟩ | ⟨k,hk,rfl,h,_⟩
 ·rw [show decide ((0:Int) ≤ -1)=false from rfl,List.any_eq_false]
  intro y hy
  rw [h y hy];simp
 ·rw [show decide ((0:Int)≤(k:Int))=true by simp,List.any_eq_true]
  exact ⟨_,List.getElem_mem hk,h⟩
theorem own_putEv {w:World} {B g n cap:Nat} {c:List Ev} (h:w.ownsRow B 93 7 (.slice (some ⟨g,0,none⟩) n cap) n (c.flatMap evC)) (i:Nat) (hi:i < c.length) (e:Ev) :
  (((((((w.setCell ⟨g,i * 7,none⟩ (.int .i64 e.id)).setCell ⟨g,i * 7 + 1,none⟩ (.string e.item)).setCell ⟨g,i * 7 + 2,none⟩ (.int .i64 e.kind)).setCell ⟨g,i * 7 + 3,none⟩ (.int .i64 e.qty)).setCell ⟨g,i * 7 + 4,none⟩ (.int .i64 e.price)).setCell ⟨g,i * 7 + 5,none⟩ (.int .i64 e.ofI)).setCell ⟨g,i * 7 + 6,none⟩ (.int .i64 e.day)).ownsRow B 93 7 (.slice (some ⟨g,0,none⟩) n cap) n ((c.set i e).flatMap evC):=by
 obtain ⟨id,item,kind,qty,price,ofI,day⟩:=e
 have st:∀ (c':List Ev) (W:World) (j:Nat) (u:Value) (y:Ev) (hi':i < c'.length),j < 7→evC y=(evC c'[i]).set j u→W.ownsRow B 93 7 (.slice (some ⟨g,0,none⟩) n cap) n (c'.flatMap evC)→(W.setCell ⟨g,i * 7 + j,none⟩ u).ownsRow B 93 7 (.slice (some ⟨g,0,none⟩) n cap) n ((c'.set i y).flatMap evC):=fun c' W j u y hi' hj hy ho=>by
  rw [flatMap_set evC 7 evC_len j u hj y c' i hi' hy]
  exact own_set ho _ u
 obtain ⟨x,hx⟩:∃ x,x=c[i]:=⟨_,rfl⟩
 obtain ⟨a0,a1,a2,a3,a4,a5,a6⟩:=x
 have s0:=st c w 0 (.int .i64 id) ⟨id,a1,a2,a3,a4,a5,a6⟩ hi (by omega) (by rw [← hx];rfl) h
 rw [Nat.add_zero] at s0
 have s1:=st _ _ 1 (.string item) ⟨id,item,a2,a3,a4,a5,a6⟩ (by simpa using hi) (by omega) (by rw [List.getElem_set_self];rfl) s0
 rw [List.set_set] at s1
 have s2:=st _ _ 2 (.int .i64 kind) ⟨id,item,kind,a3,a4,a5,a6⟩ (by simpa using hi) (by omega) (by rw [List.getElem_set_self];rfl) s1
 rw [List.set_set] at s2
 have s3:=st _ _ 3 (.int .i64 qty) ⟨id,item,kind,qty,a4,a5,a6⟩ (by simpa using hi) (by omega) (by rw [List.getElem_set_self];rfl) s2
 rw [List.set_set] at s3
 have s4:=st _ _ 4 (.int .i64 price) ⟨id,item,kind,qty,price,a5,a6⟩ (by simpa using hi) (by omega) (by rw [List.getElem_set_self];rfl) s3
 rw [List.set_set] at s4
 have s5:=st _ _ 5 (.int .i64 ofI) ⟨id,item,kind,qty,price,ofI,a6⟩ (by simpa using hi) (by omega) (by rw [List.getElem_set_self];rfl) s4
 rw [List.set_set] at s5
 have s6:=st _ _ 6 (.int .i64 day) ⟨id,item,kind,qty,price,ofI,day⟩ (by simpa using hi) (by omega) (by rw [List.getElem_set_self];rfl) s5
 rw [List.set_set] at s6
 exact s6
theorem grown_putEv (w:World) (g o0 o1 o2 o3 o4 o5 o6:Nat) (v0 v1 v2 v3 v4 v5 v6:Value):w.grownBy (((((((w.setCell ⟨g,o0,none⟩ v0).setCell ⟨g,o1,none⟩ v1).setCell ⟨g,o2,none⟩ v2).setCell ⟨g,o3,none⟩ v3).setCell ⟨g,o4,none⟩ v4).setCell ⟨g,o5,none⟩ v5).setCell ⟨g,o6,none⟩ v6) (some g):=by
 have st:∀ (W:World) (o:Nat) (v:Value),W.grownBy (W.setCell ⟨g,o,none⟩ v) (some g):=fun W o v=>⟨rfl,rfl,rfl,by simp [World.setCell],fun k _ hk=>Below.heap_setCell _ _ _ _ (fun e=>hk (by rw [e]))⟩
 have tr:∀ {a b c:World},a.grownBy b (some g)→b.grownBy c (some g)→a.grownBy c (some g):=fun h h'=>⟨h'.os.trans h.os,h'.tape.trans h.tape,h'.output.trans h.output,Nat.le_trans h.size h'.size,fun k hk hne=>(h'.block k (Nat.lt_of_lt_of_le hk h.size) hne).trans (h.block k hk hne)⟩
 exact tr (tr (tr (tr (tr (tr (st _ _ _) (st _ _ _)) (st _ _ _)) (st _ _ _)) (st _ _ _)) (st _ _ _)) (st _ _ _)
theorem clear_run {w:World} {B g n cap i:Nat} {c:List Ev} (h:w.ownsRow B 93 7 (.slice (some ⟨g,0,none⟩) n cap) n (c.flatMap evC)) (hi:i < c.length) (cc:Nat) (ty:TypeId) :
  ∃ w',(Builtin.clear_ #[53] ty #[.slice (some ⟨g,i * 7,none⟩) (n - i) cc]).run Tryz.prog w = .ok (.tuple #[]) w'∧w'.ownsRow B 93 7 (.slice (some ⟨g,0,none⟩) i cap) i ((c.take i).flatMap evC)∧w.grownBy w' (some g):=by
 have hn:n=c.length:=own_count evC_len (by omega) h
 rcases h.2 with ⟨hv,_⟩ | ⟨g',cap',cur,hv,hB,hg,hnc,hcm,hs,ht⟩
 ·cases hv
 ·cases hv
  have hz:(zeroValue 93).run Tryz.prog w = .ok evZ w:=by kernel_rfl
  have hzc:(Builtin.zeroCells evZ.cells (n - i)).toList.length=(n - i) * 7:=by
   rw [Array.length_toList,size_zeroCells];rfl
  have hone:∀ u ∈ (Builtin.zeroCells evZ.cells (n - i)).toList,u.oneCell'=true:=by
   intro u hu
   simp only [Builtin.zeroCells,Array.mem_toList_iff,Array.mem_map] at hu
   obtain ⟨j,_,rfl⟩:=hu
   have h7:evZ.cells.size=7:=rfl
   have hj:j % evZ.cells.size < 7:=by rw [h7];exact Nat.mod_lt _ (by omega)
   generalize j % evZ.cells.size=m at hj
   have hm:m=0∨m=1∨m=2∨m=3∨m=4∨m=5∨m=6:=by omega
   rcases hm with rfl | rfl | rfl | rfl | rfl | rfl | rfl <;> rfl
  have hst:=run_storeCells_at Tryz.prog g (i * 7) 93 (Builtin.zeroCells evZ.cells (n - i)).toList 0 cur w hg (by rw [hzc];omega) hone
  simp only [Nat.add_zero] at hst
  refine ⟨w.setRow g (cur.toList.take (i * 7) ++ (Builtin.zeroCells evZ.cells (n - i)).toList ++ cur.toList.drop (i * 7 + (Builtin.zeroCells evZ.cells (n - i)).toList.length)).toArray,?_,?_,?_⟩
  rotate_left
  ·refine ⟨by rw [flat_len evC 7 evC_len,List.length_take];omega,Or.inr ⟨g,cap,_,rfl,hB,setRow_heap w g cur _ _ _ hg,by omega,hcm,?_,?_⟩⟩
   ·simp only [List.size_toArray,List.length_append,List.length_take,List.length_drop,Array.length_toList,hzc]
    omega
   ·have e1:(c.flatMap evC).take (i * 7)=(c.take i).flatMap evC:=by
     conv=>lhs;rw [← List.take_append_drop i c,List.flatMap_append]
     rw [List.take_append_of_le_length (by rw [flat_len evC 7 evC_len,List.length_take];omega),List.take_of_length_le (by rw [flat_len evC 7 evC_len,List.length_take];omega)]
    rw [← e1,← ht,List.take_take,Nat.min_eq_left (by omega)]
    simp only [List.append_assoc]
    rw [List.take_append_of_le_length (by rw [List.length_take,Array.length_toList];omega),List.take_take,Nat.min_self]
  ·exact ⟨rfl,rfl,rfl,by simp,fun k _ hk=>setRow_other w g k _ (fun e=>hk (by rw [e]))⟩
  ·have hni:∃ m,n - i=m + 1:=⟨n - i - 1,by omega⟩
   obtain ⟨m,hm⟩:=hni
   rw [hm] at hst ⊢
   simp [Builtin.clear_,run_underlying Tryz.underlying53,hz,hst]
structure Kept (p:Ev→Bool) (l c:List Ev) (i j:Nat):Prop where
 len:c.length=l.length
 le:i < j
 jl:j≤l.length
 pre:c.take i=(l.take j).filter fun e=>!p e
 post:∀ t,j≤t→c[t]?=l[t]?
theorem Kept.start {p:Ev→Bool} {l:List Ev} {k:Nat} (hk:k < l.length) (hp:p l[k]=true) (hn:∀ j (hj:j < l.length),j < k→p l[j]=false):Kept p l l k (k + 1):=by
 refine ⟨rfl,by omega,by omega,?_,fun _ _=>rfl⟩
 rw [List.take_succ_eq_append_getElem hk,List.filter_append]
 have e1:[l[k]].filter (fun e=>!p e)=[]:=by simp [hp]
 have e2:(l.take k).filter (fun e=>!p e)=l.take k:=by
  rw [List.filter_eq_self]
  intro e he
  obtain ⟨j,hj,rfl⟩:=List.getElem_of_mem he
  rw [List.length_take] at hj
  rw [List.getElem_take,hn j (by omega) (by omega)];rfl
 rw [e1,e2,List.append_nil]
theorem Kept.skip {p:Ev→Bool} {l c:List Ev} {i j:Nat} (h:Kept p l c i j) (hj:j < l.length) (hp:p l[j]=true):Kept p l c i (j + 1):=by
 refine ⟨h.len,by have:=h.le;omega,by omega,?_,fun t ht=>h.post t (by omega)⟩
 rw [h.pre,List.take_succ_eq_append_getElem hj,List.filter_append]
 simp [hp]
theorem Kept.keep {p:Ev→Bool} {l c:List Ev} {i j:Nat} (h:Kept p l c i j) (hj:j < l.length) (hp:p l[j]=false):Kept p l (c.set i l[j]) (i + 1) (j + 1):=by
 have hi:i < c.length:=by rw [h.len];have:=h.le;omega
 refine ⟨by rw [List.length_set];exact h.len,by have:=h.le;omega,by omega,?_,fun t ht=>?_⟩
 ·rw [List.take_succ_eq_append_getElem (by rw [List.length_set];exact hi),List.take_set_of_le (Nat.le_refl _),List.getElem_set_self,h.pre,List.take_succ_eq_append_getElem hj,List.filter_append]
  simp [hp]
 ·rw [List.getElem?_set_ne (by have:=h.le;omega)]
  exact h.post t (by omega)
set_option maxRecDepth 20000 in
set_option maxHeartbeats 4000000 in
theorem del_any {B:Nat} (l:List Ev) (v:Value) (w:World) (h:w.ownsRow B 93 7 v l.length (l.flatMap evC)) (hl:l.length≤1000) (f:Nat) (lb:Array Value) (p:Ev→Bool) (ef:∀ args w,(callFunc f args).run Tryz.prog w = .ok (.enter f args) w)
  (hf:∀ (e:Ev) (W:World),w.grownBy W v.ownBlock→Calls Tryz.prog f (#[evV e] ++ lb) W fun r w'=>r = .returned (.bool (p e))∧Below W.heap.size W w') :
  Calls Tryz.prog 213 #[v,.func (.func f) #[] lb] w fun r w'=>∃ v':Value,r = .returned v'∧w'.ownsRow B 93 7 v' (l.filter fun e=>!p e).length ((l.filter fun e=>!p e).flatMap evC)∧w.grownBy w' v.ownBlock:=by
 have HF:Hid (∀ (e:Ev) (W:World),w.grownBy W v.ownBlock→Calls Tryz.prog f (#[evV e] ++ lb) W fun r w'=>r = .returned (.bool (p e))∧Below W.heap.size W w'):=hf
 have HO:Hid (w.ownsRow B 93 7 v l.length (l.flatMap evC)):=h
 obtain ⟨ao,cap,hv,hc⟩:=(EvsAt.of_own h).toC
 have hix:=idx_ev l ao cap w hc (by omega) f lb p ef (fun e W hb=>hf e W ⟨hb.os,hb.tape,hb.output,hb.size,fun k hk _=>hb.block k hk⟩)
 clear hf h hc
 subst hv
 go_enter Tryz.func213,Tryz.ntmps213
 go_wp2_with fail
 refine hix.mono ?_
 rintro r w1 ⟨i,rfl,hfd,hb1⟩
 have own1:=own_below HO.out hb1 (Nat.le_refl _)
 have hg1:w.grownBy w1 (Value.ownBlock (.slice ao l.length cap)):=⟨hb1.os,hb1.tape,hb1.output,hb1.size,fun k hk _=>hb1.block k hk⟩
 clear hix
 rcases hfd with ⟨rfl,hno⟩ | ⟨k0,hk0,rfl,hp0,hn0⟩
 ·have hfl:l.filter (fun e=>!p e)=l:=by
   rw [List.filter_eq_self]
   intro e he
   rw [hno e he];rfl
  have HFL:Hid (l.filter (fun e=>!p e)=l):=hfl
  clear hfl hno
  go_wp2
  go_ret
  exact ⟨_,rfl,by rw [HFL.out];exact own1,hg1⟩
 ·rcases own_form own1 with ⟨_,hn,_⟩ | ⟨g,cap',hv,hBg,hgl,hcl,hcm⟩
  ·omega
  ·simp only [Value.slice.injEq] at hv
   obtain ⟨rfl,_,rfl⟩:=hv
   have HST:Hid (Kept p l l k0 (k0 + 1)):=Kept.start hk0 hp0 hn0
   have HOWN1:Hid (w1.ownsRow B 93 7 (.slice (some ⟨g,0,none⟩) l.length cap) l.length (l.flatMap evC)):=own1
   have HG1:Hid (w.grownBy w1 (some g)):=hg1
   clear own1 hg1 hp0 hn0
   have hk1:((k0:Int) == -1)=false:=by rw [beq_eq_false_iff_ne];omega
   go_wp2
   clear hk1
   go_loopw [5,6] (fun vi vj wr=>∃ (i j:Nat) (c:List Ev),vi = .int .i64 i∧vj = .int .i64 j∧Hid (Kept p l c i j)∧Hid (wr.ownsRow B 93 7 (.slice (some ⟨g,0,none⟩) l.length cap) l.length (c.flatMap evC))∧Hid (w.grownBy wr (some g))) (fun _ vj _=>l.length - (intOf vj).toNat)
   case atStart=>exact ⟨k0,k0 + 1,l,rfl,by go_num,HST,HOWN1,HG1⟩
   case round=>
    obtain ⟨i,j,c,rfl,rfl,HK,HOW,HG⟩:=hrel
    have hij:=HK.out.le
    have hjl:=HK.out.jl
    have hcl2:=HK.out.len
    by_cases hlt:j < l.length
    ·obtain ⟨x,hx⟩:∃ x,x=l[j]:=⟨_,rfl⟩
     have hcj:c[j]'(by omega)=x:=by
      have:=HK.out.post j (Nat.le_refl _)
      rw [List.getElem?_eq_getElem hlt,List.getElem?_eq_getElem (by omega)] at this
      rw [hx];exact Option.some.inj this
     have hcw:∀ t,t < 7→wr.cell? ⟨g,j * 7 + t,none⟩=(evC x)[t]?:=fun t ht=>by
      rw [← hcj];exact (own_cell evC_len HOW.out j t (by omega) ht).1
     have hsk:=fun hp=>HK.out.skip hlt hp
     have hkp:=fun hp=>HK.out.keep hlt hp
     rw [← hx] at hsk hkp
     have HSK:Hid _:=hsk
     have HKP:Hid _:=hkp
     obtain ⟨W1,hW1⟩:∃ W,W=wr.alloc (.cells (evC x).toArray 93):=⟨_,rfl⟩
     have hb1:Below wr.heap.size wr W1:=by rw [hW1];exact (Below.refl _ _).alloc (Nat.le_refl _) _
     have hE1:EvAt W1 wr.heap.size x:=by rw [hW1];constructor <;> simp [evC]
     have hgW1:w.grownBy W1 (some g):=⟨hb1.os.trans HG.out.os,hb1.tape.trans HG.out.tape,hb1.output.trans HG.out.output,Nat.le_trans HG.out.size hb1.size,fun t ht hne=>(hb1.block t (by have:=HG.out.size;omega)).trans (HG.out.block t ht hne)⟩
     have hcall:=HF.out x W1 hgW1
     unfold evV at hcall
     obtain ⟨id,item,kind,qty,price,ofI,day⟩:=x
     have q0:=hcw 0 (by omega)
     have q1:=hcw 1 (by omega)
     have q2:=hcw 2 (by omega)
     have q3:=hcw 3 (by omega)
     have q4:=hcw 4 (by omega)
     have q5:=hcw 5 (by omega)
     have q6:=hcw 6 (by omega)
     simp only [evC,List.getElem?_cons_zero,List.getElem?_cons_succ,Nat.add_zero] at q0 q1 q2 q3 q4 q5 q6
     simp only at hcall
     have HW1:Hid (W1=wr.alloc (.cells #[.int .i64 id,.string item,.int .i64 kind,.int .i64 qty,.int .i64 price,.int .i64 ofI,.int .i64 day] 93)):=hW1
     clear hW1 hcw hsk hkp hcj hx
     generalize hpv:p ⟨id,item,kind,qty,price,ofI,day⟩=pv at hcall
     have HPV:Hid (p ⟨id,item,kind,qty,price,ofI,day⟩=pv):=hpv
     clear hpv
     go_wp2_with fail
     rw [← HW1.out]
     refine hcall.mono ?_
     rintro e w2 ⟨rfl,hb2⟩
     have hb12:Below wr.heap.size wr w2:=hb1.trans (hb2.mono hb1.size)
     have own2:=own_below HOW.out hb12 (Nat.le_refl _)
     have HG2:Hid (w.grownBy w2 (some g)):=⟨hb12.os.trans HG.out.os,hb12.tape.trans HG.out.tape,hb12.output.trans HG.out.output,Nat.le_trans HG.out.size hb12.size,fun t ht hne=>(hb12.block t (by have:=HG.out.size;omega)).trans (HG.out.block t ht hne)⟩
     have HOW2:Hid (w2.ownsRow B 93 7 (.slice (some ⟨g,0,none⟩) l.length cap) l.length (c.flatMap evC)):=own2
     clear hcall q0 q1 q2 q3 q4 q5 q6
     cases pv with
     | true=>
      clear own2
      go_wp2
      go_roundw
      case rel=>exact ⟨i,j + 1,c,rfl,by go_num,HSK.out HPV.out,HOW2,HG2⟩
      case measure=>simp [intOf];omega
     | false=>
      have hE2:=hE1.below hb2
      have c0:=hE2.c0
      have c1:=hE2.c1
      have c2:=hE2.c2
      have c3:=hE2.c3
      have c4:=hE2.c4
      have c5:=hE2.c5
      have c6:=hE2.c6
      simp only at c0 c1 c2 c3 c4 c5 c6
      have hic:i < c.length:=by omega
      have pc:=fun t ht=>own_cell evC_len own2 i t hic ht
      have hii:(i:Int) < (l.length:Int):=by omega
      have hput:=own_putEv own2 i hic ⟨id,item,kind,qty,price,ofI,day⟩
      have HPUT:Hid _:=hput
      have p0:=(pc 0 (by omega))
      have p1:=(pc 1 (by omega))
      have p2:=(pc 2 (by omega))
      have p3:=(pc 3 (by omega))
      have p4:=(pc 4 (by omega))
      have p5:=(pc 5 (by omega))
      have p6:=(pc 6 (by omega))
      simp only [evC,List.getElem?_cons_zero,List.getElem?_cons_succ,Nat.add_zero] at p0 p1 p2 p3 p4 p5 p6
      obtain ⟨p0,z0⟩:=p0
      obtain ⟨p1,z1⟩:=p1
      obtain ⟨p2,z2⟩:=p2
      obtain ⟨p3,z3⟩:=p3
      obtain ⟨p4,z4⟩:=p4
      obtain ⟨p5,z5⟩:=p5
      obtain ⟨p6,z6⟩:=p6
      clear pc hput own2
      go_wp2
      go_roundw
      case rel=>
       refine ⟨i + 1,j + 1,_,by go_num,by go_num,HKP.out HPV.out,HPUT.out,?_⟩
       have:=grown_putEv w2 g (i * 7) (i * 7 + 1) (i * 7 + 2) (i * 7 + 3) (i * 7 + 4) (i * 7 + 5) (i * 7 + 6) (.int .i64 id) (.string item) (.int .i64 kind) (.int .i64 qty) (.int .i64 price) (.int .i64 ofI) (.int .i64 day)
       exact ⟨this.os.trans HG2.out.os,this.tape.trans HG2.out.tape,this.output.trans HG2.out.output,Nat.le_trans HG2.out.size this.size,fun t ht hne=>(this.block t (by have:=HG2.out.size;omega) hne).trans (HG2.out.block t ht hne)⟩
      case measure=>simp [intOf];omega
    ·obtain rfl:j=l.length:=by omega
     have hic:i < c.length:=by omega
     have hne1:¬ cap=i:=by omega
     have hne0:¬ cap=0:=by omega
     have hpre:=HK.out.pre
     rw [List.take_length] at hpre
     have hil:i=(l.filter fun e=>!p e).length:=by rw [← hpre,List.length_take];omega
     have HPRE:Hid (c.take i=l.filter (fun e=>!p e)∧i=(l.filter fun e=>!p e).length):=⟨hpre,hil⟩
     have hii:(i:Int)≤(l.length:Int):=by omega
     have hic2:(i:Int)≤(cap:Int):=by omega
     clear hpre hil
     obtain ⟨w3,hclr,own3,g3⟩:=clear_run HOW.out hic (cap - i) 0
     have HOWN3:Hid (w3.ownsRow B 93 7 (.slice (some ⟨g,0,none⟩) i cap) i ((c.take i).flatMap evC)):=own3
     have HG3:Hid (w.grownBy w3 (some g)):=⟨g3.os.trans HG.out.os,g3.tape.trans HG.out.tape,g3.output.trans HG.out.output,Nat.le_trans HG.out.size g3.size,fun t ht hne=>(g3.block t (by have:=HG.out.size;omega) hne).trans (HG.out.block t ht hne)⟩
     clear own3 g3
     go_wp2
     go_ret
     refine ⟨.slice (some ⟨g,0,none⟩) i cap,rfl,?_,HG3.out⟩
     rw [← HPRE.out.2,← HPRE.out.1]
     exact HOWN3.out
set_option maxHeartbeats 2000000 in
theorem kn_any {B pb:Nat} {sv:Value} {b:Bk} {w:World} (h:BookAt w B pb sv b) (hl:b.vs.length≤1000) (t:Int) (f:Nat) (lb:Array Value) (p:Ev→Bool) (ef:∀ args w,(callFunc f args).run Tryz.prog w = .ok (.enter f args) w)
  (hf:∀ (e:Ev) (W:World),Below w.heap.size w W→Calls Tryz.prog f (#[evV e] ++ lb) W fun r w'=>r = .returned (.bool (p e))∧Below W.heap.size W w') :
  Calls Tryz.prog 171 #[.pointer (some ⟨pb,0,none⟩),.int .i64 t,.func (.func f) #[] lb] w fun r w'=>∃ v:Value,r = .returned v∧w'.ownsRow w.heap.size 93 7 v ((srt (asOf b (tOf b t))).filter fun e=>!p e).length (((srt (asOf b (tOf b t))).filter fun e=>!p e).flatMap evC)∧Below w.heap.size w w':=by
 have has:=as_any h (by omega) t
 have hls:(srt (asOf b (tOf b t))).length≤1000:=by
  rw [srt_len]
  unfold asOf
  rw [List.length_map]
  have h1:=List.length_filter_le (isAt (tOf b t)) b.vs
  omega
 obtain ⟨L,hL⟩:∃ L,L=srt (asOf b (tOf b t)):=⟨_,rfl⟩
 rw [← hL] at has hls ⊢
 have HF:=hidE hf
 clear h hL hf
 go_enter Tryz.func171,Tryz.ntmps171
 go_wp2_with fail
 refine has.mono ?_
 rintro r w1 ⟨v1,rfl,hown1,hb1⟩
 clear has
 obtain ⟨ad1,cp1,hv1⟩:=own_lenN hown1
 subst hv1
 have hdl:=del_any L (.slice ad1 L.length cp1) w1 hown1 hls f lb p ef (fun e W hg=>HF.out e W (hb1.grown hg hb1.size (fun k hk=>(hown1.lt k hk).1)))
 have HB1:=hidE hb1
 have HO1:=hidE hown1
 clear hb1 hown1
 go_wp2_with fail
 refine hdl.mono ?_
 rintro r w2 ⟨v2,rfl,hown2,hg2⟩
 have HB2:Hid (Below w.heap.size w w2):=HB1.out.grown hg2 HB1.out.size (fun k hk=>(HO1.out.lt k hk).1)
 have HO2:=hidE hown2
 clear hdl hg2 hown2
 go_wp2
 go_ret
 exact ⟨v2,rfl,HO2.out,HB2.out⟩
set_option maxHeartbeats 1000000 in
theorem atBut_any (e:Ev) (n:Int) (bx:Nat) (W:World) (hc:W.cell? ⟨bx,0,none⟩=some (.int .i64 n)) :
  Calls Tryz.prog 172 (#[evV e] ++ #[.pointer (some ⟨bx,0,none⟩)]) W fun r w'=>r = .returned (.bool (decide (n < e.day)))∧Below W.heap.size W w':=by
 obtain ⟨id,item,kind,qty,price,ofI,day⟩:=e
 unfold evV
 simp only
 have hne:bx ≠ W.heap.size:=by have:=World.block_lt_of_cell? _ _ hc;show bx ≠ _;have h2:bx < W.heap.size:=this;omega
 have hlt:bx < W.heap.size:=World.block_lt_of_cell? _ _ hc
 go_enter Tryz.func172,Tryz.ntmps172
 go_wp2
 go_ret
 exact ⟨rfl,(Below.refl _ _).alloc (Nat.le_refl _) _⟩
end Go.Proofs.YtbleojodidbhiaaGreatDoor
namespace Go.Proofs.YtbleojodidbhiaaGreatDoor
open Go.RowKit Go.Maps
theorem zero_lays (w:World):(zeroValue 229).run Tryz.prog w = .ok (.slice none 0 0) w:=by kernel_rfl
theorem RunRes.look {B:Nat} {W:World} {mb n:Nat} {D:DataW Value} {V:ByteArray→Value} {M:Stks} {u:Value} {ls:List Lin} (h:RunRes B W mb n D V M u ls) (x:ByteArray) (hx:x.size≤maxLen) :
  ∃ v,(Instr.lookup 221 (.map (some mb)) (.string x) false).run Tryz.prog W = .ok v W∧LayAt W v (M x).ys:=by
 obtain ⟨v,ps,h1,h2⟩:=h.map.lookup law_strT Tryz.underlying221 (zero_lays W) (zd:=.held (.slice none 0 0)) (zp:=[]) rfl (key_str x hx)
 have h3:=heldE_inv h2
 refine ⟨v,h1,?_⟩
 by_cases e:(M x).ys=[]
 ·rw [atKey_of_not_has (h.no x e)] at h3
  rw [← held_inj h3,e]
  exact LayAt.nil W
 ·rw [h.yes x e] at h3
  rw [← held_inj h3]
  exact h.lay x
set_option maxHeartbeats 1000000 in
theorem Sum_any {B:Nat} {W:World} {rv:Value} {M:Stks} {ls:List Lin} {n:Nat} (h:ResAt B W rv M ls) (x:ByteArray) (hx:x.size≤maxLen) (ok:StkOK n (M x)) (hn:n≤10000) :
  Calls Tryz.prog 175 #[rv,.string x] W fun e w'=>e = .returned (.tuple #[.int .i64 (sumQ (M x).ys),.int .i64 (sumV (M x).ys)])∧Below W.heap.size W w':=by
 obtain ⟨u,mb,k,D,V,rfl,_,_,hR⟩:=h
 obtain ⟨W0,hW0⟩:∃ w',w'=W.alloc (.cells #[u,.map (some mb)] 223):=⟨_,rfl⟩
 have hB0:Below W.heap.size W W0:=by rw [hW0];exact (Below.refl _ _).alloc (Nat.le_refl _) _
 obtain ⟨v,h1,h2⟩:=(hR.below hB0).look x hx
 have hs:=sum_any (M x).ys v W0 h2 ok.ok (by have:=ok.q;omega) (by have:=ok.v;omega) (by have:=ok.len;omega)
 obtain ⟨ad,n',cp,hu⟩:=own_len' hR.own
 obtain ⟨ad2,n2,cp2,hv⟩:=h2.slice
 subst hu
 subst hv
 have HW0:Hid (W0=_):=hW0
 rw [hW0] at h1
 clear h2 hR hW0
 go_enter Tryz.func175,Tryz.ntmps175
 go_wp2_with fail
 rw [← HW0.out]
 refine hs.mono ?_
 rintro e w1 ⟨rfl,hb⟩
 go_wp2
 go_ret2
 exact ⟨rfl,hB0.trans (hb.mono hB0.size)⟩
end Go.Proofs.YtbleojodidbhiaaGreatDoor
