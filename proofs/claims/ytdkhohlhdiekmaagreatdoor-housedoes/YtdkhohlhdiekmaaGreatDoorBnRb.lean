/-  -/
import Derived.Test.YtdkhohlhdiekmaaGreatDoorBnR
import Derived.Test.YtdkhohlhdiekmaaGreatDoorBnRo
import Derived.Test.YtdkhohlhdiekmaaGreatDoorBnA
import Derived.Test.YtdkhohlhdiekmaaGreatDoorBnS
namespace Go.Proofs.YtdkhohlhdiekmaaGreatDoor
open Go.RowKit
structure RAt (w:World) (B pb:Nat) (sv:Value) (b:Bk):Prop where
 c0:w.cell? ⟨pb,0,none⟩=some sv
 c1:w.cell? ⟨pb,1,none⟩=some (.int .i64 b.n)
 c2:w.cell? ⟨pb,2,none⟩=some (.int .i64 b.g)
 f0:w.frozen? ⟨pb,0,none⟩=false
 f1:w.frozen? ⟨pb,1,none⟩=false
 f2:w.frozen? ⟨pb,2,none⟩=false
 own:w.ownsRow B 89 9 sv b.vs.length (b.vs.flatMap vrC)
 ne:sv.ownBlock ≠ some pb
 ge:B≤pb
theorem RAt.lt {w:World} {B pb:Nat} {sv:Value} {b:Bk} (h:RAt w B pb sv b):pb < w.heap.size:=World.block_lt_of_cell? _ _ h.c0
theorem RAt.below {w w':World} {B pb:Nat} {sv:Value} {b:Bk} (h:RAt w B pb sv b) (hb:Below w.heap.size w w'):RAt w' B pb sv b:=
 ⟨below_cell hb h.c0,below_cell hb h.c1,below_cell hb h.c2,(hb.frozen (p:=⟨pb,0,none⟩) h.lt).trans h.f0,(hb.frozen (p:=⟨pb,1,none⟩) h.lt).trans h.f1,(hb.frozen (p:=⟨pb,2,none⟩) h.lt).trans h.f2,own_below h.own hb (Nat.le_refl _),h.ne,h.ge⟩
theorem RAt.block {w:World} {B pb:Nat} {sv:Value} {b:Bk} (h:RAt w B pb sv b):∀ k,sv.ownBlock=some k→B≤k∧k < w.heap.size:=h.own.lt
theorem RAt.put0 {w:World} {B pb:Nat} {sv sv':Value} {b:Bk} {vs:List Vr} (c0:w.cell? ⟨pb,0,none⟩=some sv) (c1:w.cell? ⟨pb,1,none⟩=some (.int .i64 b.n)) (c2:w.cell? ⟨pb,2,none⟩=some (.int .i64 b.g))
  (f0:w.frozen? ⟨pb,0,none⟩=false) (f1:w.frozen? ⟨pb,1,none⟩=false) (f2:w.frozen? ⟨pb,2,none⟩=false) (own:w.ownsRow B 89 9 sv' vs.length (vs.flatMap vrC)) (ne:sv'.ownBlock ≠ some pb) (ge:B≤pb) :
  RAt (w.setCell ⟨pb,0,none⟩ sv') B pb sv' { b with vs:=vs }:=
 ⟨set_same c0,(set_other (by simp)).trans c1,(set_other (by simp)).trans c2,set_frz.trans f0,set_frz.trans f1,set_frz.trans f2,ownsRow_setCell_other own ne _,ne,ge⟩
theorem RAt.put1 {w:World} {B pb:Nat} {sv:Value} {b:Bk} (h:RAt w B pb sv b) (n:Int):RAt (w.setCell ⟨pb,1,none⟩ (.int .i64 n)) B pb sv { b with n:=n }:=
 ⟨(set_other (by simp)).trans h.c0,set_same h.c1,(set_other (by simp)).trans h.c2,set_frz.trans h.f0,set_frz.trans h.f1,set_frz.trans h.f2,ownsRow_setCell_other h.own h.ne _,h.ne,h.ge⟩
theorem RAt.put2 {w:World} {B pb:Nat} {sv:Value} {b:Bk} (h:RAt w B pb sv b) (n:Int):RAt (w.setCell ⟨pb,2,none⟩ (.int .i64 n)) B pb sv { b with g:=n }:=
 ⟨(set_other (by simp)).trans h.c0,(set_other (by simp)).trans h.c1,set_same h.c2,set_frz.trans h.f0,set_frz.trans h.f1,set_frz.trans h.f2,ownsRow_setCell_other h.own h.ne _,h.ne,h.ge⟩
theorem RAt.row {w:World} {B pb g cap:Nat} {b:Bk} (h:RAt w B pb (.slice (some ⟨g,0,none⟩) b.vs.length cap) b) (k:Nat) (hk:k < b.vs.length) (t:Int) :
  RAt (w.setCell ⟨g,k * 9 + 8,none⟩ (.int .i64 t)) B pb (.slice (some ⟨g,0,none⟩) b.vs.length cap) ⟨setTo b.vs k t,b.n,b.g⟩:=by
 have hne:g ≠ pb:=fun e=>h.ne (by simp [Value.ownBlock,e])
 have e:((setTo b.vs k t).flatMap vrC)=(b.vs.flatMap vrC).set (k * 9 + 8) (.int .i64 t):=by
  rw [setTo_is _ _ _ hk]
  exact flatMap_set vrC 9 vrC_len 8 _ (by decide) _ _ k hk rfl
 have c (o:Nat):(⟨g,k * 9 + 8,none⟩:Addr) ≠ ⟨pb,o,none⟩:=fun e=>hne (by injection e)
 refine ⟨(set_other (c 0)).trans h.c0,(set_other (c 1)).trans h.c1,(set_other (c 2)).trans h.c2,set_frz.trans h.f0,set_frz.trans h.f1,set_frz.trans h.f2,?_,h.ne,h.ge⟩
 show World.ownsRow _ _ _ _ _ (setTo b.vs k t).length ((setTo b.vs k t).flatMap vrC)
 rw [e,setTo_len]
 exact own_set h.own _ _
theorem RAt.some {w:World} {B pb:Nat} {sv:Value} {b:Bk} (h:RAt w B pb sv b) (hn:0 < b.vs.length):∃ g cap,sv = .slice (some ⟨g,0,none⟩) b.vs.length cap:=by
 rcases own_form h.own with ⟨_,h0,_⟩ | ⟨g,cap,e,_⟩
 ·omega
 ·exact ⟨g,cap,e⟩
theorem Tryz.infoRv:(Tryz.prog.info? 89).map (fun i=>(i.zero,i.size,i.bytes))=some (some vrZ,9,80):=by kernel_rfl
theorem kIx_of {vs:List Vr} {id:Int} {k:Nat} (hk:k < vs.length) (h1:isK id vs[k]=true) (h2:∀ j (hj:j < vs.length),j < k→isK id vs[j]=false):kIx vs id=k:=by
 rcases kIx_spec vs id with ⟨_,h⟩ | ⟨k',hk',h,h3,h4⟩
 ·have:=h vs[k] (List.getElem_mem hk)
  rw [h1] at this
  cases this
 ·have:k'=k:=by
   rcases Nat.lt_trichotomy k k' with x | x | x
   ·have:=h4 k hk x;rw [h1] at this;cases this
   ·exact x.symm
   ·have:=h2 k' hk' x;rw [h3] at this;cases this
  rw [h,this]
theorem kIx_none {vs:List Vr} {id:Int} (h2:∀ j (hj:j < vs.length),isK id vs[j]=false):kIx vs id = -1:=by
 rcases kIx_spec vs id with ⟨h,_⟩ | ⟨k',hk',h,h3,h4⟩
 ·exact h
 ·have:=h2 k' hk';rw [h3] at this;cases this
set_option maxRecDepth 20000 in
set_option maxHeartbeats 4000000 in
theorem rknown_any {B pb:Nat} {sv:Value} {b:Bk} {w:World} (h:RAt w B pb sv b) (hl:b.vs.length≤1000000) (id:Int) :
  Calls Tryz.prog 95 #[.pointer (some ⟨pb,0,none⟩),.int .i64 id] w fun e w'=>e = .returned (.int .i64 (kIx b.vs id))∧Below w.heap.size w w':=by
 have hc0:=h.c0
 have hown:=h.own
 generalize b.vs=vs at hl hown
 clear h
 rcases own_form hown with ⟨hv,hn,_⟩ | ⟨g,cap,hv,_,hgl,_⟩
 ·subst hv
  have e:vs=[]:=List.length_eq_zero_iff.1 hn
  subst e
  have hk:kIx [] id = -1:=kIx_none fun j hj=>absurd hj (Nat.not_lt_zero _)
  rw [hk]
  go_enter Tryz.func95,Tryz.ntmps95
  go_wp2
  refine wp_loop_rounds 1 ?_
  rw [rounds_succ]
  go_wp2
  go_ret
  exact ⟨rfl,Below.refl _ _⟩
 ·subst hv
  have HO:Hid (w.ownsRow B 89 9 (.slice (some ⟨g,0,none⟩) vs.length cap) vs.length (vs.flatMap vrC)):=hown
  clear hown
  obtain ⟨ix,hix⟩:∃ ix,ix=kIx vs id:=⟨_,rfl⟩
  have HI:Hid (ix=kIx vs id):=hix
  rw [← hix]
  clear hix
  go_enter Tryz.func95,Tryz.ntmps95
  go_wp2
  go_loopw [12] (fun i wr=>∃ k:Nat,k≤vs.length∧i = .int .i64 k∧Hid (∀ j (hj:j < vs.length),j < k→isK id vs[j]=false)∧Hid (Below w.heap.size w wr)) (fun i _=>vs.length - (intOf i).toNat)
  case atStart=>exact ⟨0,Nat.zero_le _,rfl,fun j _ hj=>absurd hj (Nat.not_lt_zero _),Below.refl _ _⟩
  case round=>
   obtain ⟨k,hk,rfl,HF,HB⟩:=hrel
   by_cases hlt:k < vs.length
   ·obtain ⟨x,hx⟩:∃ x,x=vs[k]:=⟨_,rfl⟩
    have hcw:∀ j,j < 9→wr.cell? ⟨g,k * 9 + j,none⟩=(vrC x)[j]?:=fun j hj=>by
     rw [HB.out.cell (p:=⟨g,k * 9 + j,none⟩) hgl,(own_cell vrC_len HO.out k j hlt hj).1,hx]
    have HX:Hid (x=vs[k]):=hx
    clear hx
    obtain ⟨⟨id2,item,kind,qty,price,ofI,day⟩,fr,tq⟩:=x
    have q0:=hcw 0 (by omega)
    have q1:=hcw 1 (by omega)
    have q2:=hcw 2 (by omega)
    have q3:=hcw 3 (by omega)
    have q4:=hcw 4 (by omega)
    have q5:=hcw 5 (by omega)
    have q6:=hcw 6 (by omega)
    have q7:=hcw 7 (by omega)
    have q8:=hcw 8 (by omega)
    simp only [vrC,List.getElem?_cons_zero,List.getElem?_cons_succ,Nat.add_zero] at q0 q1 q2 q3 q4 q5 q6 q7 q8
    clear hcw
    have hkz:(k:Int) < (vs.length:Int):=by omega
    have HB2:∀ o,Below w.heap.size w (wr.alloc o):=fun o=>HB.out.alloc HB.out.size o
    by_cases h1:id2=id
    ·by_cases h2:tq=0
     ·subst h1 h2
      have hkk:kIx vs id2=k:=kIx_of hlt (by rw [← HX.out];simp [isK]) HF.out
      have HKK:Hid (ix=(k:Int)):=HI.out.trans hkk
      clear hkk
      go_wp2
      go_ret
      refine ⟨by rw [HKK.out];rfl,HB2 _⟩
     ·subst h1
      have HF2:Hid (∀ j (hj:j < vs.length),j < k + 1→isK id2 vs[j]=false):=fun j hj hjk=>by
       rcases Nat.lt_or_ge j k with y | y
       ·exact HF.out j hj y
       ·obtain rfl:j=k:=by omega
        rw [← HX.out];simp [isK,h2]
      have h2b:(tq == 0)=false:=by simpa using h2
      go_wp2
      go_roundw
      case rel=>exact ⟨k + 1,by omega,by go_num,HF2,HB2 _⟩
      case measure=>simp [intOf];omega
    ·have HF2:Hid (∀ j (hj:j < vs.length),j < k + 1→isK id vs[j]=false):=fun j hj hjk=>by
      rcases Nat.lt_or_ge j k with y | y
      ·exact HF.out j hj y
      ·obtain rfl:j=k:=by omega
       rw [← HX.out];simp [isK,h1]
     have h1b:(id2 == id)=false:=by simpa using h1
     go_wp2
     go_roundw
     case rel=>exact ⟨k + 1,by omega,by go_num,HF2,HB2 _⟩
     case measure=>simp [intOf];omega
   ·have hkk:kIx vs id = -1:=kIx_none fun j hj=>HF.out j hj (by omega)
    have HKK:Hid (ix = -1):=HI.out.trans hkk
    have hkz:¬ (k:Int) < (vs.length:Int):=by omega
    clear hkk
    go_wp2
    go_ret
    exact ⟨by rw [HKK.out];rfl,HB.out⟩
theorem map_filter_snoc (p:Vr→Bool) (vs:List Vr) (k:Nat) (hk:k < vs.length):((vs.take (k + 1)).filter p).map (·.ev)=((vs.take k).filter p).map (·.ev) ++ if p vs[k] then [vs[k].ev] else []:=by
 rw [filter_snoc p vs k hk,List.map_append]
 cases p vs[k] <;> rfl
def tR (b:Bk) (t:Int):Int:=if 0≤t∧t≤b.n then t else b.n
set_option maxRecDepth 20000 in
set_option maxHeartbeats 8000000 in
theorem ras_any {B pb:Nat} {sv:Value} {b:Bk} {w:World} (h:RAt w B pb sv b) (hl:b.vs.length≤1000000) (t:Int) :
  Calls Tryz.prog 14 #[.pointer (some ⟨pb,0,none⟩),.int .i64 t] w fun r w'=>∃ (v:Value) (l:List Ev),r = .returned v∧w'.ownsRow w.heap.size 78 7 v l.length (l.flatMap evC)∧l.Perm (asOf b (tR b t))∧(l.Pairwise fun x y=>ltOf cmpE y x=false)∧Below w.heap.size w w':=by
 obtain ⟨i0,hi,hz0,hz1,hz2⟩:=info_parts Tryz.infoEv
 have hc0:=h.c0
 have hc1:=h.c1
 have hown:=h.own
 obtain ⟨u,hu⟩:∃ u,u=tR b t:=⟨_,rfl⟩
 rw [← hu]
 have key:(0≤t∧t≤b.n∧u=t)∨((t < 0∨b.n < t)∧u=b.n):=by
  rw [hu,tR]
  by_cases h0:0≤t∧t≤b.n
  ·exact Or.inl ⟨h0.1,h0.2,by rw [if_pos h0]⟩
  ·exact Or.inr ⟨by omega,by rw [if_neg h0]⟩
 have HA:Hid (asOf b u=(b.vs.filter (isAt u)).map (·.ev)):=rfl
 rw [HA.out]
 clear HA hu
 generalize b.vs=vs at hl hown
 generalize b.n=n at key hc1
 clear h
 have hdone:∀ (w1:World) (v:Value),Below w.heap.size w w1→w1.ownsRow w.heap.size 78 7 v ((vs.filter (isAt u)).map (·.ev)).length (((vs.filter (isAt u)).map (·.ev)).flatMap evC) →
   Calls Tryz.prog 34 #[v] w1 fun r w'=>∃ (v:Value) (l:List Ev),r = .returned v∧w'.ownsRow w.heap.size 78 7 v l.length (l.flatMap evC)∧l.Perm ((vs.filter (isAt u)).map (·.ev))∧(l.Pairwise fun x y=>ltOf cmpE y x=false)∧Below w.heap.size w w':=fun w1 v hb ho=>by
  refine (ordered_any ho (by rw [List.length_map];exact Nat.le_trans (List.length_filter_le _ _) hl)).mono ?_
  rintro r w2 ⟨v2,l2,rfl,x1,x2,x3,x4⟩
  exact ⟨v2,l2,rfl,own_below x1 (Below.refl _ _) hb.size,x2,x3,hb.trans (x4.mono hb.size)⟩
 have HD:Hid _:=hdone
 clear hdone
 have HO0:Hid (w.ownsRow B 89 9 sv vs.length (vs.flatMap vrC)):=hown
 clear hown
 have hform:(sv = .slice none 0 0∧vs=[])∨∃ g cap,sv = .slice (some ⟨g,0,none⟩) vs.length cap∧g < w.heap.size:=by
  rcases own_form HO0.out with ⟨hv,hn,_⟩ | ⟨g,cap,hv,_,hgl,_⟩
  ·exact Or.inl ⟨hv,List.length_eq_zero_iff.1 hn⟩
  ·exact Or.inr ⟨g,cap,hv,hgl⟩
 have hin:∃ bv:Bool,Hid (Calls Tryz.prog 33 #[.int .i64 t,.int .i64 0,.int .i64 n] w fun e w'=>e = .returned (.bool bv)∧w'=w)∧((bv=true∧u=t)∨(bv=false∧u=n)):=by
  rcases key with ⟨h0,h1,h2⟩ | ⟨h0,h2⟩
  ·exact ⟨true,in_yes t 0 n w h0 h1,Or.inl ⟨rfl,h2⟩⟩
  ·exact ⟨false,in_no t 0 n w h0,Or.inr ⟨rfl,h2⟩⟩
 obtain ⟨bv,HIN,hbv⟩:=hin
 clear key
 rcases hform with ⟨rfl,rfl⟩ | ⟨g,cap,rfl,hgl⟩
 ·go_enter Tryz.func14,Tryz.ntmps14
  rcases hbv with ⟨rfl,rfl⟩ | ⟨rfl,rfl⟩
  all_goals
   go_wp2_with fail
   refine HIN.out.mono ?_
   rintro e w1 ⟨rfl,hw1⟩
   subst w1
   go_wp2
   refine wp_loop_rounds 1 ?_
   rw [rounds_succ]
   go_wp2_with fail
   refine (HD.out w (.slice none 0 0) (Below.refl _ _) (World.ownsRow_nil _ _ _ _)).mono ?_
   rintro e w2 ⟨v2,l2,rfl,x1,x2,x3,x4⟩
   have HX:Hid _:=(⟨v2,l2,rfl,x1,x2,x3,x4⟩:∃ (v:Value) (l:List Ev),Ending.returned v2 = .returned v∧w2.ownsRow w.heap.size 78 7 v l.length (l.flatMap evC)∧l.Perm _∧(l.Pairwise fun x y=>ltOf cmpE y x=false)∧Below w.heap.size w w2)
   clear x1 x2 x3 x4
   go_wp2
   go_ret
   exact HX.out
 ·go_enter Tryz.func14,Tryz.ntmps14
  rcases hbv with ⟨rfl,rfl⟩ | ⟨rfl,rfl⟩
  all_goals
   go_wp2_with fail
   refine HIN.out.mono ?_
   rintro e w1 ⟨rfl,hw1⟩
   subst w1
   go_wp2
   go_loopw [5,24] (fun v i wr=>∃ k:Nat,k≤vs.length∧i = .int .i64 k∧Hid (wr.ownsRow w.heap.size 78 7 v (((vs.take k).filter (isAt u)).map (·.ev)).length ((((vs.take k).filter (isAt u)).map (·.ev)).flatMap evC))∧Hid (Below w.heap.size w wr)) (fun _ i _=>vs.length - (intOf i).toNat)
   case atStart=>exact ⟨0,Nat.zero_le _,rfl,World.ownsRow_nil _ _ _ _,Below.refl _ _⟩
   case round=>
    obtain ⟨k,hk,rfl,HO,HB⟩:=hrel
    by_cases hlt:k < vs.length
    ·obtain ⟨x,hx⟩:∃ x,x=vs[k]:=⟨_,rfl⟩
     have hcw:∀ j,j < 9→wr.cell? ⟨g,k * 9 + j,none⟩=(vrC x)[j]?:=fun j hj=>by
      rw [HB.out.cell (p:=⟨g,k * 9 + j,none⟩) hgl,(own_cell vrC_len HO0.out k j hlt hj).1,hx]
     have HF:Hid (((vs.take (k + 1)).filter (isAt u)).map (·.ev)=((vs.take k).filter (isAt u)).map (·.ev) ++ if isAt u x then [x.ev] else []):=by rw [hx];exact map_filter_snoc (isAt u) vs k hlt
     have hfl:(((vs.take k).filter (isAt u)).map (·.ev)).length≤1000000:=by rw [List.length_map];exact Nat.le_trans (List.length_filter_le _ _) (by rw [List.length_take];omega)
     clear hx
     obtain ⟨fs,hfs⟩:∃ fs,fs=((vs.take k).filter (isAt u)).map (·.ev):=⟨_,rfl⟩
     rw [← hfs] at HO hfl HF
     clear hfs
     obtain ⟨⟨id2,item,kind,qty,price,ofI,day⟩,fr,tq⟩:=x
     have q0:=hcw 0 (by omega)
     have q1:=hcw 1 (by omega)
     have q2:=hcw 2 (by omega)
     have q3:=hcw 3 (by omega)
     have q4:=hcw 4 (by omega)
     have q5:=hcw 5 (by omega)
     have q6:=hcw 6 (by omega)
     have q7:=hcw 7 (by omega)
     have q8:=hcw 8 (by omega)
     simp only [vrC,List.getElem?_cons_zero,List.getElem?_cons_succ,Nat.add_zero] at q0 q1 q2 q3 q4 q5 q6 q7 q8
     clear hcw
     have hkz:(k:Int) < (vs.length:Int):=by omega
     have HB2:Hid (∀ o,Below w.heap.size w (wr.alloc o)):=fun o=>HB.out.alloc HB.out.size o
     by_cases h1:fr≤u∧(tq=0∨u < tq)
     ·have HF2:Hid (((vs.take (k + 1)).filter (isAt u)).map (·.ev)=fs ++ [⟨id2,item,kind,qty,price,ofI,day⟩]):=by
       have:=HF.out
       rw [if_pos (by simp [isAt,h1])] at this
       exact this
      obtain ⟨h1,h2⟩:=h1
      have h3:tq=0∨(tq ≠ 0∧(tq == 0)=false∧u < tq):=by
       by_cases h4:tq=0
       ·exact Or.inl h4
       ·exact Or.inr ⟨h4,by simpa using h4,by omega⟩
      clear h2
      rcases h3 with rfl | ⟨h3,h3b,h4⟩
      all_goals
       go_wp2_with (first
        | (at_builtin;refine wpList_append_own _ rfl _ _ 53 rfl w.heap.size 78 i0 evZ 7 64 Tryz.underlying53 hi hz0 hz1 hz2 rfl (by decide) _ _ _ rfl ((HO.out.alloc _).alloc _) ⟨wr.heap.size + 1,0,none⟩ 1 1 (evC ⟨id2,item,kind,qty,price,ofI,day⟩) rfl rfl ?c1 ?c2 ?c3 ?c4 ?c5 ?_)
        | go_in)
       case c1=>exact fun _ _ h=>h
       case c2=>exact evC_one _
       case c3=>unfold maxLen;omega
       case c4=>omega
       case c5=>have:=HB.out.size;simp;omega
       ·intro v' w2 hown2 hgr _
        have HB3:Hid (Below w.heap.size w w2):=((HB2.out _).alloc (HB2.out _).size _).grown hgr (by have:=HB.out.size;simp;omega) (fun j hj=>(HO.out.lt j hj).1)
        have HO3:Hid (w2.ownsRow w.heap.size 78 7 v' (fs.length + 1) (fs.flatMap evC ++ evC ⟨id2,item,kind,qty,price,ofI,day⟩)):=hown2
        clear hown2 hgr
        go_wp2
        go_roundw
        case rel=>
         refine ⟨k + 1,by omega,by go_num,?_,HB3⟩
         rw [HF2.out,flatMap_snoc,List.length_append]
         exact HO3.out
        case measure=>simp [intOf];omega
     ·have HF2:Hid (((vs.take (k + 1)).filter (isAt u)).map (·.ev)=fs):=by
       have:=HF.out
       rw [if_neg (by simp [isAt];omega),List.append_nil] at this
       exact this
      have h3:¬ fr≤u∨(fr≤u∧tq ≠ 0∧(tq == 0)=false∧¬ u < tq):=by
       by_cases h4:fr≤u
       ·have h5:tq ≠ 0:=fun e=>h1 ⟨h4,Or.inl e⟩
        exact Or.inr ⟨h4,h5,by simpa using h5,fun e=>h1 ⟨h4,Or.inr e⟩⟩
       ·exact Or.inl h4
      clear h1
      rcases h3 with h3 | ⟨h3,h4,h4b,h5⟩
      all_goals
       go_wp2
       go_roundw
       case rel=>
        refine ⟨k + 1,by omega,by go_num,?_,HB2.out _⟩
        rw [HF2.out]
        exact HO.out.alloc _
       case measure=>simp [intOf];omega
    ·have hkz:¬ (k:Int) < (vs.length:Int):=by omega
     have e:k=vs.length:=by omega
     subst e
     have ho:=HO.out
     rw [List.take_length] at ho
     have hc:=HD.out wr u5 HB.out ho
     clear ho
     go_wp2_with fail
     refine hc.mono ?_
     rintro e w2 ⟨v2,l2,rfl,x1,x2,x3,x4⟩
     have HX:Hid _:=(⟨v2,l2,rfl,x1,x2,x3,x4⟩:∃ (v:Value) (l:List Ev),Ending.returned v2 = .returned v∧w2.ownsRow w.heap.size 78 7 v l.length (l.flatMap evC)∧l.Perm _∧(l.Pairwise fun x y=>ltOf cmpE y x=false)∧Below w.heap.size w w2)
     clear x1 x2 x3 x4 hc
     go_wp2
     go_ret
     exact HX.out
theorem RAt.other {w:World} {B pb:Nat} {sv:Value} {b:Bk} {c:Nat} (h:RAt w B pb sv b) (hc:c ≠ pb) (hs:sv.ownBlock ≠ Option.some c) (o:Nat) (v:Value):RAt (w.setCell ⟨c,o,none⟩ v) B pb sv b:=by
 have n (k:Nat):(⟨c,o,none⟩:Addr) ≠ ⟨pb,k,none⟩:=fun e=>hc (by injection e)
 exact ⟨(set_other (n 0)).trans h.c0,(set_other (n 1)).trans h.c1,(set_other (n 2)).trans h.c2,set_frz.trans h.f0,set_frz.trans h.f1,set_frz.trans h.f2,ownsRow_setCell_other h.own hs _,h.ne,h.ge⟩
theorem turned_new {w W:World} {pb:Nat} {sv:Value} {c:Nat} (h:TurnI 0 3 w W pb sv) (hc:w.heap.size≤c) (o:Nat) (v:Value):TurnI 0 3 w (W.setCell ⟨c,o,none⟩ v).drew pb sv:=
 ⟨⟨h.os,h.tape,h.output,by have:=h.size;simpa [World.setCell] using this,fun k hk hp hs=>(Below.heap_setCell _ _ _ _ (by show k ≠ c;omega)).trans (h.block k hk hp hs)⟩,
  fun hl hn o' ho=>(show ((W.setCell ⟨c,o,none⟩ v).cell? ⟨pb,o',none⟩)=_ from (set_other (fun e=>by injection e with e1 _;omega)).trans (h.rest hl hn o' ho)),
  fun hl hn o'=>(show ((W.setCell ⟨c,o,none⟩ v).frozen? ⟨pb,o',none⟩)=_ from set_frz.trans (h.frz hl hn o'))⟩
theorem EvAt.id_set {w:World} {c:Nat} {e:Ev} (h:EvAt w c e) (i:Int):EvAt (w.setCell ⟨c,0,none⟩ (.int .i64 i)) c { e with id:=i }:=
 ⟨set_same h.c0,(set_other (by simp)).trans h.c1,(set_other (by simp)).trans h.c2,(set_other (by simp)).trans h.c3,(set_other (by simp)).trans h.c4,(set_other (by simp)).trans h.c5,(set_other (by simp)).trans h.c6⟩
set_option maxRecDepth 20000 in
set_option maxHeartbeats 4000000 in
theorem rvoid_no {B pb:Nat} {sv:Value} {b:Bk} {w:World} (h:RAt w B pb sv b) (hl:b.vs.length≤1000000) (id:Int) (hk:kIx b.vs id = -1) :
  Calls Tryz.prog 53 #[.pointer (some ⟨pb,0,none⟩),.int .i64 id] w fun r w'=>r = .returned (.int .i64 7)∧Below w.heap.size w w':=by
 have hcon:=rknown_any h hl id
 rw [hk] at hcon
 clear h
 go_enter Tryz.func53,Tryz.ntmps53
 go_wp2_with fail
 refine hcon.mono ?_
 rintro e w' ⟨rfl,hb⟩
 go_wp2
 go_ret
 exact ⟨rfl,hb⟩
set_option maxRecDepth 20000 in
set_option maxHeartbeats 4000000 in
theorem rvoid_yes {B pb g cap:Nat} {b:Bk} {w:World} (h:RAt w B pb (.slice (some ⟨g,0,none⟩) b.vs.length cap) b) (hl:b.vs.length≤1000000) (h0:0≤b.n) (h1:b.n≤1000000) (id:Int) (k:Nat) (hkl:k < b.vs.length) (hk:kIx b.vs id=k) :
  Calls Tryz.prog 53 #[.pointer (some ⟨pb,0,none⟩),.int .i64 id] w fun r w'=>r = .returned (.int .i64 0)∧RAt w' B pb (.slice (some ⟨g,0,none⟩) b.vs.length cap) (endB b k)∧TurnI 0 3 w w' pb (.slice (some ⟨g,0,none⟩) b.vs.length cap):=by
 have hcon:=rknown_any h hl id
 rw [hk] at hcon
 go_enter Tryz.func53,Tryz.ntmps53
 go_wp2_with fail
 refine hcon.mono ?_
 rintro e w1 ⟨rfl,hb⟩
 have H1:=h.below hb
 have c0:=H1.c0
 have c1:=H1.c1
 have f1:=H1.f1
 clear hcon
 have hkz:(k:Int) < (b.vs.length:Int):=by omega
 go_wp2_with fail
 refine wp_region_turn [(.pure,0),(.pure,1),(.pure,2),(.read,3),(.pure,4),(.pure,5),(.pure,6),(.pure,7),(.read,8),(.pure,9),(.pure,10),(.turn,11)] (by kernel_rfl) (by kernel_rfl) ?_
 obtain ⟨W1,hW⟩:∃ W,W=(w1.setCell ⟨pb,1,none⟩ (.int .i64 (b.n + 1))).drew:=⟨_,rfl⟩
 rw [← hW]
 have H2:RAt W1 B pb (.slice (some ⟨g,0,none⟩) b.vs.length cap) ⟨b.vs,b.n + 1,b.g⟩:=by
  rw [hW];exact (H1.put1 (b.n + 1)).below (below_drew _)
 have T2:TurnI 0 3 w W1 pb (.slice (some ⟨g,0,none⟩) b.vs.length cap):=by
  rw [hW];exact ((TurnI.of_below hb).trans (turnI_set _ _ _ _ _) (Fresh.refl _ _)).trans (TurnI.of_below (below_drew _)) (Fresh.refl _ _)
 clear hW c0 c1 f1 hk
 have hcell:=own_cell vrC_len H2.own k 8 hkl (by decide)
 have r8:=hcell.1
 have rf:=hcell.2
 simp only [vrC,List.getElem?_cons_zero,List.getElem?_cons_succ] at r8
 clear hcell
 have hU:=up_ne
 have hA:=anyW_ne
 have g0:=fun n:Up W1=>n.cell H2.c0
 have g1:=fun n:Up W1=>n.cell H2.c1
 simp only at g0 g1
 repeat (first | refine turn_p rfl ?_ | refine turn_q rfl ?_);go_big_quiet_step (fail);refine wpQuiet_nil ?_
 refine turn_t rfl ?_
 go_wp2_with fail
 refine ⟨rfl,?_⟩
 refine turn_nil ?_
 have hfin:=RAt.row (b:=⟨b.vs,b.n + 1,b.g⟩) H2 k hkl (b.n + 1)
 have htur:=T2.trans (turnI_row W1 g (k * 9 + 8) pb (.slice (some ⟨g,0,none⟩) b.vs.length cap) (.int .i64 (b.n + 1)) rfl) (Fresh.refl _ _)
 go_wp2
 go_ret
 exact ⟨rfl,hfin,htur⟩
set_option maxRecDepth 20000 in
set_option maxHeartbeats 4000000 in
theorem rpost_full {B pb:Nat} {sv:Value} {b:Bk} {w:World} (h:RAt w B pb sv b) (e:Ev) (he:EvW e) (hr:Rt e) (hf:120≤b.vs.length) :
  Calls Tryz.prog 50 #[.pointer (some ⟨pb,0,none⟩),evV e] w fun r w'=>r = .returned (.tuple #[.int .i64 0,.int .i64 12])∧Below w.heap.size w w':=by
 have hB1:Below w.heap.size w (w.alloc (.cells (evC e).toArray 78)):=(Below.refl _ _).alloc (Nat.le_refl _) _
 have hrt:=fun W=>rright_any e W he
 have HE:Hid (EvAt (w.alloc (.cells (evC e).toArray 78)) w.heap.size e):=by unfold Hid evC;constructor <;> simp
 have HR:Hid (Rt e):=hr
 clear hr HE
 generalize Rt e=P at hrt HR
 obtain ⟨ad,cap,rfl⟩:=own_len h.own
 have H1:=h.below hB1
 obtain ⟨id0,item,kind,qty,price,ofI,day⟩:=e
 unfold evV at hrt ⊢
 simp only at hrt ⊢
 have hz:(120:Int)≤(b.vs.length:Int):=by omega
 clear hf
 go_enter Tryz.func50,Tryz.ntmps50
 go_wp2_with fail
 refine (hrt _).mono ?_
 rintro r w1 ⟨⟨bv,rfl,hbv⟩,hb⟩
 obtain rfl:bv=true:=hbv.2 HR.out
 have c0:=(H1.below hb).c0
 clear hrt H1 hbv h HR
 go_wp2
 go_ret2
 exact ⟨rfl,hB1.trans (hb.mono (by simp))⟩
set_option maxRecDepth 20000 in
set_option maxHeartbeats 4000000 in
theorem rpost_yes {B pb:Nat} {sv:Value} {b:Bk} {w:World} (h:RAt w B pb sv b) (h0:0≤b.n) (h1:b.n≤1000000) (g0:0≤b.g) (g1:b.g≤1000000) (e:Ev) (he:EvW e) (hr:Rt e) (hlen:b.vs.length < 120) :
  Calls Tryz.prog 50 #[.pointer (some ⟨pb,0,none⟩),evV e] w fun r w'=>r = .returned (.tuple #[.int .i64 (b.g + 1),.int .i64 0])∧∃ sv',RAt w' B pb sv' (postB b e)∧TurnI 0 3 w w' pb sv∧Fresh w sv sv':=by
 obtain ⟨i0,hi,hz0,hz1,hz2⟩:=info_parts Tryz.infoRv
 have hB1:Below w.heap.size w (w.alloc (.cells (evC e).toArray 78)):=(Below.refl _ _).alloc (Nat.le_refl _) _
 have hrt:=fun W=>rright_any e W he
 have HE:Hid (EvAt (w.alloc (.cells (evC e).toArray 78)) w.heap.size e):=by unfold Hid evC;constructor <;> simp
 have HR:Hid (Rt e):=hr
 clear hr
 generalize Rt e=P at hrt HR
 obtain ⟨ad,cap,rfl⟩:=own_len h.own
 have H1:=h.below hB1
 have HP:Hid (postB b e={ (⟨b.vs,b.n + 1,b.g + 1⟩:Bk) with vs:=b.vs ++ [⟨{ e with id:=b.g + 1 },b.n + 1,0⟩] }):=rfl
 rw [HP.out]
 clear HP
 have HLL:Hid (b.vs.length < 120):=hlen
 obtain ⟨id0,item,kind,qty,price,ofI,day⟩:=e
 unfold evV at hrt ⊢
 simp only at hrt ⊢
 have hz:¬ (120:Int)≤(b.vs.length:Int):=by omega
 go_enter Tryz.func50,Tryz.ntmps50
 go_wp2_with fail
 refine (hrt _).mono ?_
 rintro r w1 ⟨⟨bv,rfl,hbv⟩,hb⟩
 obtain rfl:bv=true:=hbv.2 HR.out
 have H2:=H1.below hb
 have E2:=HE.out.below hb
 have T1:TurnI 0 3 w w1 pb (.slice ad b.vs.length cap):=.of_below (hB1.trans (hb.mono (by simp)))
 have c0:=H2.c0
 have c1:=H2.c1
 have c2:=H2.c2
 have f1:=H2.f1
 have f2:=H2.f2
 have e0:=E2.c0
 have e0f:w1.frozen? ⟨w.heap.size,0,none⟩=false:=by
  rw [hb.frozen (p:=⟨w.heap.size,0,none⟩) (by simp)];simp
 have hpl:pb ≠ w.heap.size:=by have:=h.lt;omega
 have hpl2:w.heap.size ≠ pb:=fun e=>hpl e.symm
 clear hrt hbv HE
 go_wp2_with fail
 refine wp_region_turn [(.pure,0),(.pure,1),(.pure,2),(.pure,3),(.read,4),(.read,5),(.pure,6),(.pure,7),(.pure,8),(.read,9),(.pure,10),(.make,11),(.turn,12),(.pure,13),(.pure,14),(.turn,15)] (by kernel_rfl) (by kernel_rfl) ?_
 obtain ⟨W0,hW⟩:∃ W,W=(((w1.setCell ⟨pb,2,none⟩ (.int .i64 (b.g + 1))).setCell ⟨pb,1,none⟩ (.int .i64 (b.n + 1))).setCell ⟨w.heap.size,0,none⟩ (.int .i64 (b.g + 1))).drew:=⟨_,rfl⟩
 rw [← hW]
 have hob (k:Nat) (v:Value) (W:World) (b':Bk) (hh:RAt W B pb (.slice ad b.vs.length cap) b'):RAt (W.setCell ⟨w.heap.size,k,none⟩ v) B pb (.slice ad b.vs.length cap) b':=RAt.other hh hpl2 (fun e=>by have:=(h.block _ e).2;omega) _ _
 have HB:RAt W0 B pb (.slice ad b.vs.length cap) ⟨b.vs,b.n + 1,b.g + 1⟩:=by
  rw [hW];exact (hob _ _ _ _ ((H2.put2 (b.g + 1)).put1 (b.n + 1))).below (below_drew _)
 have T3:TurnI 0 3 w W0 pb (.slice ad b.vs.length cap):=by
  rw [hW];exact turned_new ((T1.trans (turnI_set _ _ _ _ _) (Fresh.refl _ _)).trans (turnI_set _ _ _ _ _) (Fresh.refl _ _)) (Nat.le_refl _) _ _
 have hE:EvAt W0 w.heap.size ⟨b.g + 1,item,kind,qty,price,ofI,day⟩:=by
  rw [hW];exact (((E2.set ⟨pb,2,none⟩ _ hpl).set ⟨pb,1,none⟩ _ hpl).id_set (b.g + 1)).below (below_drew _)
 clear hW c0 c1 c2 f1 f2 e0 e0f H1 H2 E2 T1 hB1 hb
 have hU:=up_ne
 have hA:=anyW_ne
 have f0:=fun n:Up W0=>(hE.up n).c0
 have f1:=fun n:Up W0=>(hE.up n).c1
 have f2:=fun n:Up W0=>(hE.up n).c2
 have f3:=fun n:Up W0=>(hE.up n).c3
 have f4:=fun n:Up W0=>(hE.up n).c4
 have f5:=fun n:Up W0=>(hE.up n).c5
 have f6:=fun n:Up W0=>(hE.up n).c6
 have g0:=fun n:Up W0=>n.cell HB.c0
 have g1:=fun n:Up W0=>n.cell HB.c1
 simp only at f0 f1 f2 f3 f4 f5 f6 g0 g1
 repeat (first | refine turn_p rfl ?_ | refine turn_q rfl ?_);go_big_quiet_step (fail);refine wpQuiet_nil ?_
 refine turn_n rfl ?_
 go_wp2_with fail
 refine ⟨rfl,(Below.refl _ _).alloc (Nat.le_refl _) _,?_⟩
 clear f0 f1 f2 f3 f4 f5 f6 g0 g1
 refine turn_t rfl ?_
 refine wpList_append_new _ rfl _ _ 33 rfl B 89 i0 vrZ 9 80 Tryz.underlying33 hi hz0 hz1 hz2 rfl (by decide) (.slice ad b.vs.length cap) _ _ rfl (HB.own.alloc _) ⟨W0.heap.size,0,none⟩ 1 1 (vrC ⟨⟨b.g + 1,item,kind,qty,price,ofI,day⟩,(b.n + 1),0⟩) rfl rfl ?d1 ?d2 ?d3 ?d4 ?d5 (by decide) ?_
 case d1=>exact cells_of_list rfl
 case d2=>exact vrC_one _
 case d3=>have:=HLL.out;simp only [maxLen];omega
 case d4=>have:=HLL.out;simp only;omega
 case d5=>have:=HB.ge;have:=HB.lt;simp;omega
 intro v' w2 hown2 hgr hfr
 obtain ⟨W1,hW1⟩:∃ W,W=W0.alloc (.cells (vrC ⟨⟨b.g + 1,item,kind,qty,price,ofI,day⟩,(b.n + 1),0⟩).toArray 89):=⟨_,rfl⟩
 have hB1:Below W0.heap.size W0 W1:=by rw [hW1];exact (Below.refl _ _).alloc (Nat.le_refl _) _
 have HB1:=HB.below hB1
 have E1:=hE.below hB1
 have hgr':W1.grownBy w2 (Value.ownBlock (.slice ad b.vs.length cap)):=by rw [hW1];exact hgr
 have e2:w2.heap[pb]?=W1.heap[pb]?:=hgr'.block pb HB1.lt (fun e=>HB.ne e.symm)
 have k0:w2.cell? ⟨pb,0,none⟩=some (.slice ad b.vs.length cap):=(World.cell?_of_block (a:=⟨pb,0,none⟩) e2).trans HB1.c0
 have k1:w2.cell? ⟨pb,1,none⟩=some (.int .i64 (b.n + 1)):=(World.cell?_of_block (a:=⟨pb,1,none⟩) e2).trans HB1.c1
 have k2:w2.cell? ⟨pb,2,none⟩=some (.int .i64 (b.g + 1)):=(World.cell?_of_block (a:=⟨pb,2,none⟩) e2).trans HB1.c2
 have z0:w2.frozen? ⟨pb,0,none⟩=false:=(World.frozen?_of_block (a:=⟨pb,0,none⟩) e2).trans HB1.f0
 have z1:w2.frozen? ⟨pb,1,none⟩=false:=(World.frozen?_of_block (a:=⟨pb,1,none⟩) e2).trans HB1.f1
 have z2:w2.frozen? ⟨pb,2,none⟩=false:=(World.frozen?_of_block (a:=⟨pb,2,none⟩) e2).trans HB1.f2
 have HO:Hid (w2.ownsRow B 89 9 v' (b.vs.length + 1) (b.vs.flatMap vrC ++ vrC ⟨⟨b.g + 1,item,kind,qty,price,ofI,day⟩,(b.n + 1),0⟩)):=hown2
 have hg2:W1.heap.size≤w2.heap.size:=hgr'.size
 have hfv:Fresh W0 (.slice ad b.vs.length cap) v':=hfr.grow (by simp)
 have hbx:w2.heap[w.heap.size]?=W1.heap[w.heap.size]?:=hgr'.block w.heap.size (World.block_lt_of_cell? _ _ E1.c0) (fun e=>by have:=(h.block _ e.symm).2;omega)
 have x0:w2.cell? ⟨w.heap.size,0,none⟩=some (.int .i64 (b.g + 1)):=(World.cell?_of_block (a:=⟨w.heap.size,0,none⟩) hbx).trans E1.c0
 clear hown2 hgr hfr hW1
 obtain ⟨g2,cap2,hv2,hg2B,hg2l,_⟩:∃ g cap,v' = .slice (some ⟨g,0,none⟩) (b.vs.length + 1) cap∧B≤g∧g < w2.heap.size∧True:=by
  rcases own_form HO.out with ⟨_,hn,_⟩ | ⟨g,cap,hv,h1,h2,_⟩
  ·omega
  ·exact ⟨g,cap,hv,h1,h2,trivial⟩
 subst hv2
 have hne:Value.ownBlock (.slice (some ⟨g2,0,none⟩) (b.vs.length + 1) cap2) ≠ some pb:=fun e=>by
  rcases hfv pb e with h1 | h1
  ·exact HB.ne h1
  ·have:=HB.lt;omega
 have hfin:=RAt.put0 (b:=⟨b.vs,b.n + 1,b.g + 1⟩) (vs:=b.vs ++ [⟨⟨b.g + 1,item,kind,qty,price,ofI,day⟩,(b.n + 1),0⟩]) k0 k1 k2 z0 z1 z2 (by simpa using HO.out) hne HB.ge
 have HFIN:Hid _:=hfin
 have htur:TurnI 0 3 w (w2.setCell ⟨pb,0,none⟩ (.slice (some ⟨g2,0,none⟩) (b.vs.length + 1) cap2)) pb (.slice ad b.vs.length cap):=
  (T3.trans ((TurnI.of_below hB1).trans (grown_turnI hgr') (Fresh.refl _ _)) (Fresh.refl _ _)).trans (turnI_set _ _ _ _ _) (Fresh.refl _ _)
 have hfw:Fresh w (.slice ad b.vs.length cap) (.slice (some ⟨g2,0,none⟩) (b.vs.length + 1) cap2):=hfv.grow T3.size
 have HTUR:Hid _:=htur
 have HFW:Hid _:=hfw
 clear hfin htur hfw
 go_wp2_with fail
 refine ⟨rfl,?_⟩
 repeat (first | refine turn_p rfl ?_ | refine turn_q rfl ?_);go_big_quiet_step (fail);refine wpQuiet_nil ?_
 refine turn_t rfl ?_
 go_wp2_with fail
 refine ⟨rfl,?_⟩
 refine turn_nil ?_
 have hpw:(⟨pb,0,none⟩:Addr) ≠ ⟨w.heap.size,0,none⟩:=fun e=>by injection e with e;have:=h.lt;omega
 have x1:(w2.setCell ⟨pb,0,none⟩ (.slice (some ⟨g2,0,none⟩) (b.vs.length + 1) cap2)).cell? ⟨w.heap.size,0,none⟩=some (.int .i64 (b.g + 1)):=(set_other hpw).trans x0
 clear x0 k0 k1 k2 z0 z1 z2 hpw
 go_wp2
 go_ret2
 exact ⟨rfl,_,HFIN.out,HTUR.out,HFW.out⟩
set_option maxRecDepth 20000 in
set_option maxHeartbeats 4000000 in
theorem rcorr_miss {B pb:Nat} {sv:Value} {b:Bk} {w:World} (h:RAt w B pb sv b) (hl:b.vs.length≤1000000) (id:Int) (e:Ev) (hk:kIx b.vs id = -1) :
  Calls Tryz.prog 52 #[.pointer (some ⟨pb,0,none⟩),.int .i64 id,evV e] w fun r w'=>r = .returned (.int .i64 7)∧Below w.heap.size w w':=by
 have hB1:Below w.heap.size w (w.alloc (.cells (evC e).toArray 78)):=(Below.refl _ _).alloc (Nat.le_refl _) _
 have hcon:=rknown_any (h.below hB1) hl id
 rw [hk] at hcon
 obtain ⟨id0,item,kind,qty,price,ofI,day⟩:=e
 unfold evV
 simp only
 clear h
 go_enter Tryz.func52,Tryz.ntmps52
 go_wp2_with fail
 refine hcon.mono ?_
 rintro r w1 ⟨rfl,hb⟩
 go_wp2
 go_ret
 exact ⟨rfl,hB1.trans (hb.mono (by simp))⟩
set_option maxRecDepth 20000 in
set_option maxHeartbeats 4000000 in
theorem rcorr_bad {B pb:Nat} {sv:Value} {b:Bk} {w:World} (h:RAt w B pb sv b) (hl:b.vs.length≤1000000) (id:Int) (e:Ev) (he:EvW e) (k:Nat) (hk:kIx b.vs id=k) (hr:¬ Rt e) :
  Calls Tryz.prog 52 #[.pointer (some ⟨pb,0,none⟩),.int .i64 id,evV e] w fun r w'=>r = .returned (.int .i64 1)∧Below w.heap.size w w':=by
 have hB1:Below w.heap.size w (w.alloc (.cells (evC e).toArray 78)):=(Below.refl _ _).alloc (Nat.le_refl _) _
 have hrt:=fun W=>rright_any e W he
 have HE:Hid (EvAt (w.alloc (.cells (evC e).toArray 78)) w.heap.size e):=by unfold Hid evC;constructor <;> simp
 have hcon:=rknown_any (h.below hB1) hl id
 rw [hk] at hcon
 have HR:Hid (¬ Rt e):=hr
 clear hr
 generalize Rt e=P at hrt HR
 obtain ⟨id0,item,kind,qty,price,ofI,day⟩:=e
 unfold evV at hrt ⊢
 simp only at hrt ⊢
 go_enter Tryz.func52,Tryz.ntmps52
 go_wp2_with fail
 refine hcon.mono ?_
 rintro r w1 ⟨rfl,hb⟩
 have H1:=(h.below hB1).below hb
 have E1:=HE.out.below hb
 have v0:=E1.c0
 have v1:=E1.c1
 have v2:=E1.c2
 have v3:=E1.c3
 have v4:=E1.c4
 have v5:=E1.c5
 have v6:=E1.c6
 simp only at v0 v1 v2 v3 v4 v5 v6
 clear hcon HE H1 h
 go_wp2_with fail
 refine (hrt _).mono ?_
 rintro r w2 ⟨⟨bv,rfl,hbv⟩,hb2⟩
 obtain rfl:bv=false:=by
  cases bv with
  | false=>rfl
  | true=>exact absurd (hbv.1 rfl) HR.out
 clear hrt HR hbv
 go_wp2
 go_ret
 exact ⟨rfl,(hB1.trans (hb.mono (by simp))).trans (hb2.mono (by have:=hb.size;simp at this;omega))⟩
set_option maxRecDepth 20000 in
set_option maxHeartbeats 4000000 in
theorem rcorr_full {B pb:Nat} {sv:Value} {b:Bk} {w:World} (h:RAt w B pb sv b) (hl:b.vs.length≤1000000) (id:Int) (e:Ev) (he:EvW e) (k:Nat) (hk:kIx b.vs id=k) (hr:Rt e) (hf:120≤b.vs.length) :
  Calls Tryz.prog 52 #[.pointer (some ⟨pb,0,none⟩),.int .i64 id,evV e] w fun r w'=>r = .returned (.int .i64 12)∧Below w.heap.size w w':=by
 have hB1:Below w.heap.size w (w.alloc (.cells (evC e).toArray 78)):=(Below.refl _ _).alloc (Nat.le_refl _) _
 have hrt:=fun W=>rright_any e W he
 have HE:Hid (EvAt (w.alloc (.cells (evC e).toArray 78)) w.heap.size e):=by unfold Hid evC;constructor <;> simp
 obtain ⟨ad,cap,rfl⟩:=own_len h.own
 have hcon:=rknown_any (h.below hB1) hl id
 rw [hk] at hcon
 have HR:Hid (Rt e):=hr
 have hz:(120:Int)≤(b.vs.length:Int):=by omega
 clear hr hf
 generalize Rt e=P at hrt HR
 obtain ⟨id0,item,kind,qty,price,ofI,day⟩:=e
 unfold evV at hrt ⊢
 simp only at hrt ⊢
 go_enter Tryz.func52,Tryz.ntmps52
 go_wp2_with fail
 refine hcon.mono ?_
 rintro r w1 ⟨rfl,hb⟩
 have H1:=(h.below hB1).below hb
 have E1:=HE.out.below hb
 have v0:=E1.c0
 have v1:=E1.c1
 have v2:=E1.c2
 have v3:=E1.c3
 have v4:=E1.c4
 have v5:=E1.c5
 have v6:=E1.c6
 simp only at v0 v1 v2 v3 v4 v5 v6
 clear hcon HE h
 go_wp2_with fail
 refine (hrt _).mono ?_
 rintro r w2 ⟨⟨bv,rfl,hbv⟩,hb2⟩
 obtain rfl:bv=true:=hbv.2 HR.out
 have c0:=(H1.below hb2).c0
 clear hrt HR hbv H1 E1 v0 v1 v2 v3 v4 v5 v6 hl hk
 go_wp2
 go_ret
 exact ⟨rfl,(hB1.trans (hb.mono (by simp))).trans (hb2.mono (by have:=hb.size;simp at this;omega))⟩
set_option maxRecDepth 20000 in
set_option maxHeartbeats 4000000 in
theorem rcorr_yes {B pb g cap:Nat} {b:Bk} {w:World} (h:RAt w B pb (.slice (some ⟨g,0,none⟩) b.vs.length cap) b) (h0:0≤b.n) (h1:b.n≤1000000) (id:Int) (e:Ev) (he:EvW e) (k:Nat) (hkl:k < b.vs.length) (hk:kIx b.vs id=k) (hr:Rt e) (hlen:b.vs.length < 120) :
  Calls Tryz.prog 52 #[.pointer (some ⟨pb,0,none⟩),.int .i64 id,evV e] w fun r w'=>r = .returned (.int .i64 0)∧∃ sv',RAt w' B pb sv' (corrB b k id e)∧TurnI 0 3 w w' pb (.slice (some ⟨g,0,none⟩) b.vs.length cap)∧Fresh w (.slice (some ⟨g,0,none⟩) b.vs.length cap) sv':=by
 obtain ⟨i0,hi,hz0,hz1,hz2⟩:=info_parts Tryz.infoRv
 have hl:b.vs.length≤1000000:=by omega
 have hB1:Below w.heap.size w (w.alloc (.cells (evC e).toArray 78)):=(Below.refl _ _).alloc (Nat.le_refl _) _
 have hrt:=fun W=>rright_any e W he
 have HE:Hid (EvAt (w.alloc (.cells (evC e).toArray 78)) w.heap.size e):=by unfold Hid evC;constructor <;> simp
 have hcon:=rknown_any (h.below hB1) hl id
 rw [hk] at hcon
 have HR:Hid (Rt e):=hr
 have hz:¬ (120:Int)≤(b.vs.length:Int):=by omega
 clear hr
 generalize Rt e=P at hrt HR
 have HP:Hid (corrB b k id e={ (⟨setTo b.vs k (b.n + 1),b.n + 1,b.g⟩:Bk) with vs:=setTo b.vs k (b.n + 1) ++ [⟨{ e with id:=id },b.n + 1,0⟩] }):=rfl
 rw [HP.out]
 clear HP
 have HLL:Hid ((setTo b.vs k (b.n + 1)).length < 120):=by unfold Hid;rw [setTo_len];exact hlen
 obtain ⟨id0,item,kind,qty,price,ofI,day⟩:=e
 unfold evV at hrt ⊢
 simp only at hrt ⊢
 go_enter Tryz.func52,Tryz.ntmps52
 go_wp2_with fail
 refine hcon.mono ?_
 rintro r w1 ⟨rfl,hb⟩
 have H1:=(h.below hB1).below hb
 have E1:=HE.out.below hb
 have v0:=E1.c0
 have v1:=E1.c1
 have v2:=E1.c2
 have v3:=E1.c3
 have v4:=E1.c4
 have v5:=E1.c5
 have v6:=E1.c6
 simp only at v0 v1 v2 v3 v4 v5 v6
 have T1:TurnI 0 3 w w1 pb (.slice (some ⟨g,0,none⟩) b.vs.length cap):=.of_below (hB1.trans (hb.mono (by simp)))
 have hl1:w.heap.size < w1.heap.size:=by have:=hb.size;simp at this;omega
 have e0f1:w1.frozen? ⟨w.heap.size,0,none⟩=false:=by
  rw [hb.frozen (p:=⟨w.heap.size,0,none⟩) (by simp)];simp
 clear hcon HE
 go_wp2_with fail
 refine (hrt _).mono ?_
 rintro r w2 ⟨⟨bv,rfl,hbv⟩,hb2⟩
 obtain rfl:bv=true:=hbv.2 HR.out
 have H2:=H1.below hb2
 have E2:=E1.below hb2
 have T2:=T1.trans (.of_below hb2) (Fresh.refl _ _)
 have c0:=H2.c0
 have c1:=H2.c1
 have f1:=H2.f1
 have e0:=E2.c0
 have e0f:w2.frozen? ⟨w.heap.size,0,none⟩=false:=(hb2.frozen (p:=⟨w.heap.size,0,none⟩) hl1).trans e0f1
 have hpl:pb ≠ w.heap.size:=by have:=h.lt;omega
 have hpl2:w.heap.size ≠ pb:=fun e=>hpl e.symm
 have hgl:g ≠ w.heap.size:=by have:=(h.block g rfl).2;omega
 have hkz:(k:Int) < (b.vs.length:Int):=by omega
 clear hrt HR hbv H1 E1 T1 v0 v1 v2 v3 v4 v5 v6 e0f1 hk
 go_wp2_with fail
 refine wp_region_turn [(.pure,0),(.pure,1),(.pure,2),(.read,3),(.pure,4),(.pure,5),(.pure,6),(.pure,7),(.read,8),(.pure,9),(.pure,10),(.turn,11)] (by kernel_rfl) (by kernel_rfl) ?_
 obtain ⟨W1,hW⟩:∃ W,W=((w2.setCell ⟨pb,1,none⟩ (.int .i64 (b.n + 1))).setCell ⟨w.heap.size,0,none⟩ (.int .i64 id)).drew:=⟨_,rfl⟩
 rw [← hW]
 have H3:RAt W1 B pb (.slice (some ⟨g,0,none⟩) b.vs.length cap) ⟨b.vs,b.n + 1,b.g⟩:=by
  rw [hW];exact (RAt.other (H2.put1 (b.n + 1)) hpl2 (fun e=>by have:=(h.block _ e).2;omega) _ _).below (below_drew _)
 have T2b:TurnI 0 3 w W1 pb (.slice (some ⟨g,0,none⟩) b.vs.length cap):=by
  rw [hW];exact turned_new (T2.trans (turnI_set _ _ _ _ _) (Fresh.refl _ _)) (Nat.le_refl _) _ _
 have E3:EvAt W1 w.heap.size ⟨id,item,kind,qty,price,ofI,day⟩:=by
  rw [hW];exact ((E2.set ⟨pb,1,none⟩ _ hpl).id_set id).below (below_drew _)
 clear hW c0 c1 f1 e0 e0f H2 E2 T2 hB1 hb hb2
 have hcell:=own_cell vrC_len H3.own k 8 hkl (by decide)
 have r8:=hcell.1
 have rf:=hcell.2
 simp only [vrC,List.getElem?_cons_zero,List.getElem?_cons_succ] at r8
 clear hcell
 have hU:=up_ne
 have hA:=anyW_ne
 have g0:=fun n:Up W1=>n.cell H3.c0
 have g1:=fun n:Up W1=>n.cell H3.c1
 simp only at g0 g1
 repeat (first | refine turn_p rfl ?_ | refine turn_q rfl ?_);go_big_quiet_step (fail);refine wpQuiet_nil ?_
 refine turn_t rfl ?_
 go_wp2_with fail
 refine ⟨rfl,?_⟩
 refine turn_nil ?_
 have H4:=RAt.row (b:=⟨b.vs,b.n + 1,b.g⟩) H3 k hkl (b.n + 1)
 have T4:=T2b.trans (turnI_row W1 g (k * 9 + 8) pb (.slice (some ⟨g,0,none⟩) b.vs.length cap) (.int .i64 (b.n + 1)) rfl) (Fresh.refl _ _)
 have E4:=E3.set ⟨g,k * 9 + 8,none⟩ (.int .i64 (b.n + 1)) hgl
 simp only at H4
 clear g0 g1 r8 rf hU hA
 obtain ⟨W2,hW2⟩:∃ W,W=W1.setCell ⟨g,k * 9 + 8,none⟩ (.int .i64 (b.n + 1)):=⟨_,rfl⟩
 rw [← hW2] at H4 T4 E4 ⊢
 clear hW2 H3 T2b E3
 go_wp2_with fail
 refine wp_region_turn [(.pure,0),(.pure,1),(.pure,2),(.pure,3),(.read,4),(.read,5),(.pure,6),(.pure,7),(.pure,8),(.read,9),(.pure,10),(.make,11),(.turn,12),(.pure,13),(.pure,14),(.turn,15)] (by kernel_rfl) (by kernel_rfl) ?_
 obtain ⟨W0,hW⟩:∃ W,W=W2.drew:=⟨_,rfl⟩
 rw [← hW]
 have HB:RAt W0 B pb (.slice (some ⟨g,0,none⟩) b.vs.length cap) ⟨setTo b.vs k (b.n + 1),b.n + 1,b.g⟩:=by
  rw [hW];exact H4.below (below_drew _)
 have T3:TurnI 0 3 w W0 pb (.slice (some ⟨g,0,none⟩) b.vs.length cap):=by
  rw [hW];exact T4.trans (TurnI.of_below (below_drew _)) (Fresh.refl _ _)
 have hE:EvAt W0 w.heap.size ⟨id,item,kind,qty,price,ofI,day⟩:=by
  rw [hW];exact E4.below (below_drew _)
 clear hW H4 T4 E4
 have hU:=up_ne
 have hA:=anyW_ne
 have f0:=fun n:Up W0=>(hE.up n).c0
 have f1:=fun n:Up W0=>(hE.up n).c1
 have f2:=fun n:Up W0=>(hE.up n).c2
 have f3:=fun n:Up W0=>(hE.up n).c3
 have f4:=fun n:Up W0=>(hE.up n).c4
 have f5:=fun n:Up W0=>(hE.up n).c5
 have f6:=fun n:Up W0=>(hE.up n).c6
 have g0:=fun n:Up W0=>n.cell HB.c0
 have g1:=fun n:Up W0=>n.cell HB.c1
 simp only at f0 f1 f2 f3 f4 f5 f6 g0 g1
 repeat (first | refine turn_p rfl ?_ | refine turn_q rfl ?_);go_big_quiet_step (fail);refine wpQuiet_nil ?_
 refine turn_n rfl ?_
 go_wp2_with fail
 refine ⟨rfl,(Below.refl _ _).alloc (Nat.le_refl _) _,?_⟩
 clear f0 f1 f2 f3 f4 f5 f6 g0 g1
 refine turn_t rfl ?_
 refine wpList_append_new _ rfl _ _ 33 rfl B 89 i0 vrZ 9 80 Tryz.underlying33 hi hz0 hz1 hz2 rfl (by decide) (.slice (some ⟨g,0,none⟩) b.vs.length cap) _ _ rfl (HB.own.alloc _) ⟨W0.heap.size,0,none⟩ 1 1 (vrC ⟨⟨id,item,kind,qty,price,ofI,day⟩,(b.n + 1),0⟩) rfl rfl ?d1 ?d2 ?d3 ?d4 ?d5 (by decide) ?_
 case d1=>exact cells_of_list rfl
 case d2=>exact vrC_one _
 case d3=>have:=HLL.out;simp only [maxLen];omega
 case d4=>have:=HLL.out;simp only;omega
 case d5=>have:=HB.ge;have:=HB.lt;simp;omega
 intro v' w2 hown2 hgr hfr
 obtain ⟨W1,hW1⟩:∃ W,W=W0.alloc (.cells (vrC ⟨⟨id,item,kind,qty,price,ofI,day⟩,(b.n + 1),0⟩).toArray 89):=⟨_,rfl⟩
 have hB1:Below W0.heap.size W0 W1:=by rw [hW1];exact (Below.refl _ _).alloc (Nat.le_refl _) _
 have HB1:=HB.below hB1
 have E1:=hE.below hB1
 have hgr':W1.grownBy w2 (Value.ownBlock (.slice (some ⟨g,0,none⟩) b.vs.length cap)):=by rw [hW1];exact hgr
 have e2:w2.heap[pb]?=W1.heap[pb]?:=hgr'.block pb HB1.lt (fun e=>HB.ne e.symm)
 have k0:w2.cell? ⟨pb,0,none⟩=some (.slice (some ⟨g,0,none⟩) b.vs.length cap):=(World.cell?_of_block (a:=⟨pb,0,none⟩) e2).trans HB1.c0
 have k1:w2.cell? ⟨pb,1,none⟩=some (.int .i64 (b.n + 1)):=(World.cell?_of_block (a:=⟨pb,1,none⟩) e2).trans HB1.c1
 have k2:w2.cell? ⟨pb,2,none⟩=some (.int .i64 b.g):=(World.cell?_of_block (a:=⟨pb,2,none⟩) e2).trans HB1.c2
 have z0:w2.frozen? ⟨pb,0,none⟩=false:=(World.frozen?_of_block (a:=⟨pb,0,none⟩) e2).trans HB1.f0
 have z1:w2.frozen? ⟨pb,1,none⟩=false:=(World.frozen?_of_block (a:=⟨pb,1,none⟩) e2).trans HB1.f1
 have z2:w2.frozen? ⟨pb,2,none⟩=false:=(World.frozen?_of_block (a:=⟨pb,2,none⟩) e2).trans HB1.f2
 have HO:Hid (w2.ownsRow B 89 9 v' ((setTo b.vs k (b.n + 1)).length + 1) ((setTo b.vs k (b.n + 1)).flatMap vrC ++ vrC ⟨⟨id,item,kind,qty,price,ofI,day⟩,(b.n + 1),0⟩)):=hown2
 have hg2:W1.heap.size≤w2.heap.size:=hgr'.size
 have hfv:Fresh W0 (.slice (some ⟨g,0,none⟩) b.vs.length cap) v':=hfr.grow (by simp)
 have hbx:w2.heap[w.heap.size]?=W1.heap[w.heap.size]?:=hgr'.block w.heap.size (World.block_lt_of_cell? _ _ E1.c0) (fun e=>by have:=(h.block _ e.symm).2;omega)
 have x0:w2.cell? ⟨w.heap.size,0,none⟩=some (.int .i64 id):=(World.cell?_of_block (a:=⟨w.heap.size,0,none⟩) hbx).trans E1.c0
 clear hown2 hgr hfr hW1
 obtain ⟨g2,cap2,hv2,hg2B,hg2l,_⟩:∃ g cap,v' = .slice (some ⟨g,0,none⟩) ((setTo b.vs k (b.n + 1)).length + 1) cap∧B≤g∧g < w2.heap.size∧True:=by
  rcases own_form HO.out with ⟨_,hn,_⟩ | ⟨g,cap,hv,h1,h2,_⟩
  ·omega
  ·exact ⟨g,cap,hv,h1,h2,trivial⟩
 subst hv2
 have hne:Value.ownBlock (.slice (some ⟨g2,0,none⟩) ((setTo b.vs k (b.n + 1)).length + 1) cap2) ≠ some pb:=fun e=>by
  rcases hfv pb e with h1 | h1
  ·exact HB.ne h1
  ·have:=HB.lt;omega
 have hfin:=RAt.put0 (b:=⟨setTo b.vs k (b.n + 1),b.n + 1,b.g⟩) (vs:=(setTo b.vs k (b.n + 1)) ++ [⟨⟨id,item,kind,qty,price,ofI,day⟩,(b.n + 1),0⟩]) k0 k1 k2 z0 z1 z2 (by simpa using HO.out) hne HB.ge
 have HFIN:Hid _:=hfin
 have htur:TurnI 0 3 w (w2.setCell ⟨pb,0,none⟩ (.slice (some ⟨g2,0,none⟩) ((setTo b.vs k (b.n + 1)).length + 1) cap2)) pb (.slice (some ⟨g,0,none⟩) b.vs.length cap):=
  (T3.trans ((TurnI.of_below hB1).trans (grown_turnI hgr') (Fresh.refl _ _)) (Fresh.refl _ _)).trans (turnI_set _ _ _ _ _) (Fresh.refl _ _)
 have hfw:Fresh w (.slice (some ⟨g,0,none⟩) b.vs.length cap) (.slice (some ⟨g2,0,none⟩) ((setTo b.vs k (b.n + 1)).length + 1) cap2):=hfv.grow T3.size
 have HTUR:Hid _:=htur
 have HFW:Hid _:=hfw
 clear hfin htur hfw
 go_wp2_with fail
 refine ⟨rfl,?_⟩
 repeat (first | refine turn_p rfl ?_ | refine turn_q rfl ?_);go_big_quiet_step (fail);refine wpQuiet_nil ?_
 refine turn_t rfl ?_
 go_wp2_with fail
 refine ⟨rfl,?_⟩
 refine turn_nil ?_
 have hpw:(⟨pb,0,none⟩:Addr) ≠ ⟨w.heap.size,0,none⟩:=fun e=>by injection e with e;have:=h.lt;omega
 have x1:(w2.setCell ⟨pb,0,none⟩ (.slice (some ⟨g2,0,none⟩) ((setTo b.vs k (b.n + 1)).length + 1) cap2)).cell? ⟨w.heap.size,0,none⟩=some (.int .i64 id):=(set_other hpw).trans x0
 clear x0 k0 k1 k2 z0 z1 z2 hpw
 go_wp2
 go_ret
 exact ⟨rfl,_,HFIN.out,HTUR.out,HFW.out⟩
theorem rpost_does {B pb:Nat} {sv:Value} {b:Bk} {w:World} (h:RAt w B pb sv b) (ho:BkOk b) (e:Ev) (he:EvW e) (hr:Rt e) :
  Calls Tryz.prog 50 #[.pointer (some ⟨pb,0,none⟩),evV e] w fun r w'=>∃ (m c:Int) (b':Bk) (sv':Value),r = .returned (.tuple #[.int .i64 m,.int .i64 c])∧((m=0∧c=12∧¬ b.vs.length < 120∧b'=b)∨(m=b.g + 1∧c=0∧b.vs.length < 120∧b'=postB b e))∧RAt w' B pb sv' b'∧TurnI 0 3 w w' pb sv∧Fresh w sv sv':=by
 by_cases hl:b.vs.length < 120
 ·refine (rpost_yes h ho.n0 ho.n1 ho.g0 ho.g1 e he hr hl).mono ?_
  rintro r w' ⟨rfl,sv',h1,h2,h3⟩
  exact ⟨_,0,_,sv',rfl,Or.inr ⟨rfl,rfl,hl,rfl⟩,h1,h2,h3⟩
 ·refine (rpost_full h e he hr (by omega)).mono ?_
  rintro r w' ⟨rfl,hb⟩
  exact ⟨0,12,b,sv,rfl,Or.inl ⟨rfl,rfl,hl,rfl⟩,h.below hb,.of_below hb,Fresh.refl _ _⟩
theorem rcorr_does {B pb:Nat} {sv:Value} {b:Bk} {w:World} (h:RAt w B pb sv b) (ho:BkOk b) (id:Int) (e:Ev) (he:EvW e) (hr:Rt e) :
  Calls Tryz.prog 52 #[.pointer (some ⟨pb,0,none⟩),.int .i64 id,evV e] w fun r w'=>∃ (c:Int) (b':Bk) (sv':Value),r = .returned (.int .i64 c) ∧
   ((c=7∧kIx b.vs id = -1∧b'=b)∨(c=12∧kIx b.vs id ≠ -1∧¬ b.vs.length < 120∧b'=b)∨(c=0∧kIx b.vs id ≠ -1∧b.vs.length < 120∧b'=corrB b (kIx b.vs id).toNat id e))∧RAt w' B pb sv' b'∧TurnI 0 3 w w' pb sv∧Fresh w sv sv':=by
 have hl:b.vs.length≤1000000:=by have:=ho.len;omega
 rcases kIx_form b.vs id with hk | ⟨k,hkl,hk⟩
 ·refine (rcorr_miss h hl id e hk).mono ?_
  rintro r w' ⟨rfl,hb⟩
  exact ⟨7,b,sv,rfl,Or.inl ⟨rfl,hk,rfl⟩,h.below hb,.of_below hb,Fresh.refl _ _⟩
 ·have hne:kIx b.vs id ≠ -1:=by rw [hk];omega
  by_cases hy:b.vs.length < 120
  ·obtain ⟨g,cap,hsv⟩:=h.some (by omega)
   subst hsv
   refine (rcorr_yes h ho.n0 ho.n1 id e he k hkl hk hr hy).mono ?_
   rintro r w' ⟨rfl,sv',h1,h2,h3⟩
   exact ⟨0,_,sv',rfl,Or.inr (Or.inr ⟨rfl,hne,hy,by rw [hk];rfl⟩),h1,h2,h3⟩
  ·refine (rcorr_full h hl id e he k hk hr (by omega)).mono ?_
   rintro r w' ⟨rfl,hb⟩
   exact ⟨12,b,sv,rfl,Or.inr (Or.inl ⟨rfl,hne,hy,rfl⟩),h.below hb,.of_below hb,Fresh.refl _ _⟩
theorem rvoid_does {B pb:Nat} {sv:Value} {b:Bk} {w:World} (h:RAt w B pb sv b) (ho:BkOk b) (id:Int) :
  Calls Tryz.prog 53 #[.pointer (some ⟨pb,0,none⟩),.int .i64 id] w fun r w'=>∃ (c:Int) (b':Bk) (sv':Value),r = .returned (.int .i64 c) ∧
   ((c=7∧kIx b.vs id = -1∧b'=b)∨(c=0∧kIx b.vs id ≠ -1∧b'=endB b (kIx b.vs id).toNat))∧RAt w' B pb sv' b'∧TurnI 0 3 w w' pb sv∧Fresh w sv sv':=by
 have hl:b.vs.length≤1000000:=by have:=ho.len;omega
 rcases kIx_form b.vs id with hk | ⟨k,hkl,hk⟩
 ·refine (rvoid_no h hl id hk).mono ?_
  rintro r w' ⟨rfl,hb⟩
  exact ⟨7,b,sv,rfl,Or.inl ⟨rfl,hk,rfl⟩,h.below hb,.of_below hb,Fresh.refl _ _⟩
 ·obtain ⟨g,cap,hsv⟩:=h.some (by omega)
  subst hsv
  refine (rvoid_yes h hl ho.n0 ho.n1 id k hkl hk).mono ?_
  rintro r w' ⟨rfl,h1,h2⟩
  exact ⟨0,_,_,rfl,Or.inr ⟨rfl,by rw [hk];omega,by rw [hk];rfl⟩,h1,h2,Fresh.refl _ _⟩
end Go.Proofs.YtdkhohlhdiekmaaGreatDoor
