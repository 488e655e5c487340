/-  -/
import Derived.Test.YtdkhohlhdiekmaaGreatDoorBnHm
import Derived.Test.YtdkhohlhdiekmaaGreatDoorBnRc
import Derived.Test.YtdkhohlhdiekmaaGreatDoorBnRb
import Derived.Test.YtdkhohlhdiekmaaGreatDoorBnJs
import Derived.Test.YtdkhohlhdiekmaaGreatDoorBnErr
import Derived.Test.YtdkhohlhdiekmaaGreatDoorBnEv
import Derived.Test.YtdkhohlhdiekmaaGreatDoorBnJr
import Derived.Test.YtdkhohlhdiekmaaGreatDoorBnShelf
namespace Go.Proofs.YtdkhohlhdiekmaaGreatDoor
open Go.RowKit
structure RhAt (w:World) (B ph:Nat) (sv cv lv:Value) (h:Hs):Prop where
 bk:RAt w B ph sv h.bk
 pr:RPerAt w B ph cv h.cs (sumC fig0 h.cs)
 cl:w.cell? ⟨ph,9,none⟩=some lv
 ln:w.ownsRow B 9 1 lv h.ls.length (h.ls.map encS)
 nl:lv.ownBlock ≠ some ph
 a1:∀ g,cv.ownBlock=some g→sv.ownBlock ≠ some g
 a2:∀ g,lv.ownBlock=some g→sv.ownBlock ≠ some g
 a3:∀ g,lv.ownBlock=some g→cv.ownBlock ≠ some g
def RMine (ph:Nat) (sv cv lv:Value) (k:Nat):Prop:=k=ph∨sv.ownBlock=some k∨cv.ownBlock=some k∨lv.ownBlock=some k
structure RTurn (w w':World) (ph:Nat) (sv cv lv sv' cv' lv':Value):Prop where
 os:w'.os=w.os
 tape:w'.tape=w.tape
 output:w'.output=w.output
 size:w.heap.size≤w'.heap.size
 block:∀ k,k < w.heap.size→¬ RMine ph sv cv lv k→w'.heap[k]?=w.heap[k]?
 fresh:∀ k,RMine ph sv' cv' lv' k→RMine ph sv cv lv k∨w.heap.size≤k
section
variable {w w' w'' w0:World} {B ph:Nat} {sv cv lv sv' cv' lv' sv'' cv'' lv'':Value} {h:Hs}
theorem RhAt.lt (a:RhAt w B ph sv cv lv h):ph < w.heap.size:=a.bk.lt
theorem RhAt.mine (a:RhAt w B ph sv cv lv h) {k:Nat} (hk:RMine ph sv cv lv k):B≤k∧k < w.heap.size:=by
 rcases hk with rfl | hk | hk | hk
 ·exact ⟨a.bk.ge,a.lt⟩
 ·exact a.bk.block k hk
 ·exact a.pr.own.lt k hk
 ·exact a.ln.lt k hk
theorem RhAt.same (a:RhAt w B ph sv cv lv h) (e:∀ k,RMine ph sv cv lv k→w'.heap[k]?=w.heap[k]?):RhAt w' B ph sv cv lv h:=by
 have ep:=e ph (Or.inl rfl)
 have c (o:Nat):w'.cell? ⟨ph,o,none⟩=w.cell? ⟨ph,o,none⟩:=World.cell?_of_block (a:=⟨ph,o,none⟩) ep
 have f (o:Nat):w'.frozen? ⟨ph,o,none⟩=w.frozen? ⟨ph,o,none⟩:=World.frozen?_of_block (a:=⟨ph,o,none⟩) ep
 exact ⟨⟨(c 0).trans a.bk.c0,(c 1).trans a.bk.c1,(c 2).trans a.bk.c2,(f 0).trans a.bk.f0,(f 1).trans a.bk.f1,(f 2).trans a.bk.f2,row_same a.bk.own fun k hk=>e k (Or.inr (Or.inl hk)),a.bk.ne,a.bk.ge⟩,
  a.pr.same ep fun k hk=>e k (Or.inr (Or.inr (Or.inl hk))),(c 9).trans a.cl,row_same a.ln fun k hk=>e k (Or.inr (Or.inr (Or.inr hk))),a.nl,a.a1,a.a2,a.a3⟩
theorem RhAt.below (a:RhAt w B ph sv cv lv h) (hb:Below w.heap.size w w'):RhAt w' B ph sv cv lv h:=a.same fun k hk=>hb.block k (a.mine hk).2
theorem RTurn.of_below (hb:Below w.heap.size w w'):RTurn w w' ph sv cv lv sv cv lv:=⟨hb.os,hb.tape,hb.output,hb.size,fun k hk _=>hb.block k hk,fun _ hk=>Or.inl hk⟩
theorem RTurn.trans (t:RTurn w w' ph sv cv lv sv' cv' lv') (t':RTurn w' w'' ph sv' cv' lv' sv'' cv'' lv''):RTurn w w'' ph sv cv lv sv'' cv'' lv'':=
 ⟨t'.os.trans t.os,t'.tape.trans t.tape,t'.output.trans t.output,Nat.le_trans t.size t'.size,
  fun k hk hn=>(t'.block k (Nat.lt_of_lt_of_le hk t.size) (fun hm=>by
   rcases t.fresh k hm with x | x
   ·exact hn x
   ·omega)).trans (t.block k hk hn),
  fun k hk=>by
   rcases t'.fresh k hk with x | x
   ·exact t.fresh k x
   ·exact Or.inr (Nat.le_trans t.size x)⟩
theorem RTurn.below (t:RTurn w w' ph sv cv lv sv' cv' lv') (a:RhAt w B ph sv cv lv h) (hb:Below B w0 w) (hB:B≤w.heap.size):Below B w0 w':=
 hb.trans ⟨t.os,t.tape,t.output,t.size,fun k hk=>t.block k (by omega) (fun hm=>by have:=(a.mine hm).1;omega)⟩
theorem RhAt.mono {B':Nat} (a:RhAt w B ph sv cv lv h) (hB:B'≤B):RhAt w B' ph sv cv lv h:=
 ⟨⟨a.bk.c0,a.bk.c1,a.bk.c2,a.bk.f0,a.bk.f1,a.bk.f2,own_mono a.bk.own hB,a.bk.ne,Nat.le_trans hB a.bk.ge⟩,⟨a.pr.c0,a.pr.c1,a.pr.c2,a.pr.c3,a.pr.c4,a.pr.c5,a.pr.fz,own_mono a.pr.own hB,a.pr.ne,Nat.le_trans hB a.pr.ge⟩,a.cl,own_mono a.ln hB,a.nl,a.a1,a.a2,a.a3⟩
theorem Ground.rturn (g:Ground B w) (a:RhAt w B ph sv cv lv h) (t:RTurn w w' ph sv cv lv sv' cv' lv'):Ground B w':=by
 obtain ⟨w0,h0,h1,hb0⟩:=g
 exact ⟨w0,h0,h1,t.below (a.mono h1) hb0 hb0.size⟩
theorem RhAt.book {b':Bk} (a:RhAt w B ph sv cv lv h) (H:RAt w' B ph sv' b') (T:TurnI 0 3 w w' ph sv) (F:Fresh w sv sv'):RhAt w' B ph sv' cv lv ⟨b',h.cs,h.ls⟩∧RTurn w w' ph sv cv lv sv' cv lv:=by
 have r:=fun o ho=>T.rest a.lt a.bk.ne o ho
 have f:=fun o=>T.frz a.lt a.bk.ne o
 have ap:∀ (v:Value),(∀ g,v.ownBlock=some g→g < w.heap.size)→(∀ g,v.ownBlock=some g→sv.ownBlock ≠ some g)→∀ g,v.ownBlock=some g→sv'.ownBlock ≠ some g:=fun v hl ha g hg e=>by
  rcases F g e with x | x
  ·exact ha g hg x
  ·have:=hl g hg;omega
 refine ⟨⟨H,⟨(r 3 (by omega)).trans a.pr.c0,(r 4 (by omega)).trans a.pr.c1,(r 5 (by omega)).trans a.pr.c2,(r 6 (by omega)).trans a.pr.c3,(r 7 (by omega)).trans a.pr.c4,(r 8 (by omega)).trans a.pr.c5,fun k=>(f k).trans (a.pr.fz k),?_,a.pr.ne,a.pr.ge⟩,(r 9 (by omega)).trans a.cl,?_,a.nl,ap cv (fun g hg=>(a.pr.own.lt g hg).2) a.a1,ap lv (fun g hg=>(a.ln.lt g hg).2) a.a2,a.a3⟩,?_⟩
 ·exact row_same a.pr.own fun k hk=>T.block k (a.pr.own.lt k hk).2 (fun e=>a.pr.ne (e ▸ hk)) (a.a1 k hk)
 ·exact row_same a.ln fun k hk=>T.block k (a.ln.lt k hk).2 (fun e=>a.nl (e ▸ hk)) (a.a2 k hk)
 ·refine ⟨T.os,T.tape,T.output,T.size,fun k hk hn=>T.block k hk (fun e=>hn (Or.inl e)) (fun e=>hn (Or.inr (Or.inl e))),fun k hk=>?_⟩
  rcases hk with e | e | e | e
  ·exact Or.inl (Or.inl e)
  ·rcases F k e with x | x
   ·exact Or.inl (Or.inr (Or.inl x))
   ·exact Or.inr x
  ·exact Or.inl (Or.inr (Or.inr (Or.inl e)))
  ·exact Or.inl (Or.inr (Or.inr (Or.inr e)))
theorem RhAt.closes {cs':List Cl} (a:RhAt w B ph sv cv lv h) (H:RPerAt w' B ph cv' cs' (sumC fig0 cs')) (T:TurnI 3 9 w w' ph cv) (F:Fresh w cv cv'):RhAt w' B ph sv cv' lv ⟨h.bk,cs',h.ls⟩∧RTurn w w' ph sv cv lv sv cv' lv:=by
 have r:=fun o ho=>T.rest a.lt a.pr.ne o ho
 have f:=fun o=>T.frz a.lt a.pr.ne o
 have fr:∀ (v:Value),(∀ g,v.ownBlock=some g→g < w.heap.size)→(∀ g,v.ownBlock=some g→cv.ownBlock ≠ some g)→∀ g,v.ownBlock=some g→cv'.ownBlock ≠ some g:=fun v hl ha g hg e=>by
  rcases F g e with x | x
  ·exact ha g hg x
  ·have:=hl g hg;omega
 refine ⟨⟨⟨(r 0 (by omega)).trans a.bk.c0,(r 1 (by omega)).trans a.bk.c1,(r 2 (by omega)).trans a.bk.c2,(f 0).trans a.bk.f0,(f 1).trans a.bk.f1,(f 2).trans a.bk.f2,?_,a.bk.ne,a.bk.ge⟩,H,(r 9 (by omega)).trans a.cl,?_,a.nl,?_,a.a2,fr lv (fun g hg=>(a.ln.lt g hg).2) a.a3⟩,?_⟩
 ·exact row_same a.bk.own fun k hk=>T.block k (a.bk.own.lt k hk).2 (fun e=>a.bk.ne (e ▸ hk)) (fun e=>a.a1 k e hk)
 ·exact row_same a.ln fun k hk=>T.block k (a.ln.lt k hk).2 (fun e=>a.nl (e ▸ hk)) (a.a3 k hk)
 ·intro g hg e
  exact fr sv (fun g hg=>(a.bk.own.lt g hg).2) (fun g hg e=>a.a1 g e hg) g e hg
 ·refine ⟨T.os,T.tape,T.output,T.size,fun k hk hn=>T.block k hk (fun e=>hn (Or.inl e)) (fun e=>hn (Or.inr (Or.inr (Or.inl e)))),fun k hk=>?_⟩
  rcases hk with e | e | e | e
  ·exact Or.inl (Or.inl e)
  ·exact Or.inl (Or.inr (Or.inl e))
  ·rcases F k e with x | x
   ·exact Or.inl (Or.inr (Or.inr (Or.inl x)))
   ·exact Or.inr x
  ·exact Or.inl (Or.inr (Or.inr (Or.inr e)))
theorem RhAt.line {Wa w5:World} {v':Value} {l:List UInt8} (a:RhAt w B ph sv cv lv h) (hb:Below w.heap.size w Wa) (hown:w5.ownsRow B 9 1 v' (h.ls.length + 1) (h.ls.map encS ++ [encS l])) (hgr:Wa.grownBy w5 lv.ownBlock) (hfr:Fresh Wa lv v') :
  (w5.cell? ⟨ph,9,none⟩=some lv∧w5.frozen? ⟨ph,9,none⟩=false)∧RhAt (w5.setCell ⟨ph,9,none⟩ v') B ph sv cv v' ⟨h.bk,h.cs,h.ls ++ [l]⟩∧RTurn w (w5.setCell ⟨ph,9,none⟩ v') ph sv cv lv sv cv v':=by
 have aa:=a.below hb
 have hs:=hb.size
 have bl:∀ k,k < Wa.heap.size→lv.ownBlock ≠ some k→w5.heap[k]?=Wa.heap[k]?:=fun k hk hn=>hgr.block k hk (fun e=>hn e.symm)
 have ep:w5.heap[ph]?=Wa.heap[ph]?:=bl ph aa.lt a.nl
 have c (o:Nat):w5.cell? ⟨ph,o,none⟩=Wa.cell? ⟨ph,o,none⟩:=World.cell?_of_block (a:=⟨ph,o,none⟩) ep
 have f (o:Nat):w5.frozen? ⟨ph,o,none⟩=Wa.frozen? ⟨ph,o,none⟩:=World.frozen?_of_block (a:=⟨ph,o,none⟩) ep
 have hv:v'.ownBlock ≠ some ph:=fun e=>by
  rcases hfr ph e with x | x
  ·exact a.nl x
  ·have:=aa.lt;omega
 have fr:∀ (v:Value),(∀ g,v.ownBlock=some g→g < Wa.heap.size)→(∀ g,lv.ownBlock=some g→v.ownBlock ≠ some g)→∀ g,v'.ownBlock=some g→v.ownBlock ≠ some g:=fun v hl ha g hg e=>by
  rcases hfr g hg with x | x
  ·exact ha g x e
  ·have:=hl g e;omega
 have o9 (o:Nat) (ho:o ≠ 9):(w5.setCell ⟨ph,9,none⟩ v').cell? ⟨ph,o,none⟩=Wa.cell? ⟨ph,o,none⟩:=(set_other (fun e=>by injection e with _ e2;omega)).trans (c o)
 have z9 (o:Nat):(w5.setCell ⟨ph,9,none⟩ v').frozen? ⟨ph,o,none⟩=Wa.frozen? ⟨ph,o,none⟩:=set_frz.trans (f o)
 have b9 (k:Nat) (hk:k ≠ ph):(w5.setCell ⟨ph,9,none⟩ v').heap[k]?=w5.heap[k]?:=Below.heap_setCell _ _ _ _ hk
 have hw5:(w5.setCell ⟨ph,9,none⟩ v').heap.size=w5.heap.size:=by simp [World.setCell]
 refine ⟨⟨(c 9).trans aa.cl,(f 9).trans (aa.pr.fz 9)⟩,⟨⟨(o9 0 (by decide)).trans aa.bk.c0,(o9 1 (by decide)).trans aa.bk.c1,(o9 2 (by decide)).trans aa.bk.c2,(z9 0).trans aa.bk.f0,(z9 1).trans aa.bk.f1,(z9 2).trans aa.bk.f2,?_,aa.bk.ne,aa.bk.ge⟩,
  ⟨(o9 3 (by decide)).trans aa.pr.c0,(o9 4 (by decide)).trans aa.pr.c1,(o9 5 (by decide)).trans aa.pr.c2,(o9 6 (by decide)).trans aa.pr.c3,(o9 7 (by decide)).trans aa.pr.c4,(o9 8 (by decide)).trans aa.pr.c5,fun k=>(z9 k).trans (aa.pr.fz k),?_,aa.pr.ne,aa.pr.ge⟩,set_same ((c 9).trans aa.cl),?_,hv,a.a1,fr sv (fun g hg=>(aa.bk.own.lt g hg).2) a.a2,fr cv (fun g hg=>(aa.pr.own.lt g hg).2) a.a3⟩,?_⟩
 ·exact row_same aa.bk.own fun k hk=>(b9 k (fun e=>aa.bk.ne (e ▸ hk))).trans (bl k (aa.bk.own.lt k hk).2 (fun e=>a.a2 k e hk))
 ·exact row_same aa.pr.own fun k hk=>(b9 k (fun e=>aa.pr.ne (e ▸ hk))).trans (bl k (aa.pr.own.lt k hk).2 (fun e=>a.a3 k e hk))
 ·show World.ownsRow _ _ _ _ _ (h.ls ++ [l]).length ((h.ls ++ [l]).map encS)
  rw [List.length_append,List.map_append]
  exact row_same hown fun k hk=>b9 k (fun e=>hv (e ▸ hk))
 ·refine ⟨?_,?_,?_,by rw [hw5];exact Nat.le_trans hs hgr.size,fun k hk hn=>?_,fun k hk=>?_⟩
  ·exact hgr.os.trans hb.os
  ·exact hgr.tape.trans hb.tape
  ·exact hgr.output.trans hb.output
  ·exact ((b9 k (fun e=>hn (Or.inl e))).trans (bl k (by omega) (fun e=>hn (Or.inr (Or.inr (Or.inr e)))))).trans (hb.block k hk)
  ·rcases hk with e | e | e | e
   ·exact Or.inl (Or.inl e)
   ·exact Or.inl (Or.inr (Or.inl e))
   ·exact Or.inl (Or.inr (Or.inr (Or.inl e)))
   ·rcases hfr k e with x | x
    ·exact Or.inl (Or.inr (Or.inr (Or.inr x)))
    ·exact Or.inr (by omega)
theorem rhouse_new (w:World) (B:Nat) (hB:B≤w.heap.size):RhAt (w.alloc (.cells #[.slice none 0 0,.int .i64 0,.int .i64 0,.slice none 0 0,.int .i64 0,.int .i64 0,.int .i64 0,.int .i64 0,.int .i64 0,.slice none 0 0] 42)) B w.heap.size (.slice none 0 0) (.slice none 0 0) (.slice none 0 0) hs0:=
 ⟨⟨by simp,by simp [hs0,bk0],by simp [hs0,bk0],by simp,by simp,by simp,World.ownsRow_nil _ _ _ _,by simp [Value.ownBlock],hB⟩,⟨by simp,by simp [hs0,sumC,fig0],by simp [hs0,sumC,fig0],by simp [hs0,sumC,fig0],by simp [hs0,sumC,fig0],by simp [hs0,sumC,fig0],fun k=>by simp,World.ownsRow_nil _ _ _ _,by simp [Value.ownBlock],hB⟩,by simp,World.ownsRow_nil _ _ _ _,by simp [Value.ownBlock],by simp [Value.ownBlock],by simp [Value.ownBlock],by simp [Value.ownBlock]⟩
end
end Go.Proofs.YtdkhohlhdiekmaaGreatDoor
namespace Go.Proofs.YtdkhohlhdiekmaaGreatDoor
open Go.RowKit
set_option maxHeartbeats 4000000 in
theorem rnum_ok (s:ByteArray) (v:Int) (w:World) (hg:GlobN w) (hs:s.size≤1000) (h:numO s.data.toList=some v) :
  Calls Tryz.prog 46 #[.string s] w fun x w'=>x = .returned (.tuple #[.int .i64 v,.bool true])∧Below w.heap.size w w':=by
 obtain ⟨h1,h2⟩:=numO_some h
 have hbd:=numO_bd h
 have hA:=atoiN s w hg (by omega)
 have HI:=fun (W:World) (hW:GlobN W)=>hidN (itoaN v W hW hbd.1 hbd.2)
 have he:eb (Lib.itoa v)=s:=by rw [h2];cases s;simp [eb]
 rw [he] at HI
 have HG:=hidN hg
 have H1:=hidN h1
 clear hg he h h1 h2 hbd
 go_enter Tryz.func46,Tryz.ntmps46
 go_wp2_with fail
 refine hA.mono ?_
 rintro x w1 ⟨⟨u,hu,rfl⟩ | ⟨u,tq,q,hu,rfl⟩,hb1⟩
 ·obtain rfl:u=v:=by
   have e:=hu.symm.trans H1.out
   injection e
  have hI:=(HI w1 (HG.out.below hb1)).out
  clear HI hu H1 hA
  go_wp2_with fail
  refine hI.mono ?_
  rintro x w2 ⟨rfl,hb2⟩
  clear hI
  go_wp2
  go_ret2
  exact ⟨rfl,hb1.trans (hb2.mono hb1.size)⟩
 ·exact absurd H1.out (hu v)
def NoNum (w:World) (x:Ending) (w':World):Prop:=(∃ u,x = .returned (.tuple #[.int .i64 u,.bool false]))∧Below w.heap.size w w'
set_option maxHeartbeats 4000000 in
theorem rnum_bad (s:ByteArray) (w:World) (hg:GlobN w) (hs:s.size≤1000) (h:numO s.data.toList=none) :
  Calls Tryz.prog 46 #[.string s] w (NoNum w):=by
 have hA:=atoiN s w hg (by omega)
 have HG:=hidN hg
 have HN:=hidN h
 clear hg h
 go_enter Tryz.func46,Tryz.ntmps46
 go_wp2_with fail
 refine hA.mono ?_
 rintro x w1 ⟨⟨u,hu,rfl⟩ | ⟨u,tq,q,hu,rfl⟩,hb1⟩
 ·have hbd:=Lib.atoiAll_bounds hu
  have hI:=itoaN u w1 (HG.out.below hb1) hbd.1 hbd.2
  obtain ⟨t,ht⟩:∃ t,t=eb (Lib.itoa u):=⟨_,rfl⟩
  have hc:(t.toList == s.toList)=false:=by
   rw [ht,eqlB_iff]
   apply decide_eq_false
   rw [show (eb (Lib.itoa u)).data.toList=Lib.itoa u by simp [eb]]
   exact numO_none HN.out hu
  rw [← ht] at hI
  clear hu hA ht hbd
  go_wp2_with fail
  refine hI.mono ?_
  rintro x w2 ⟨rfl,hb2⟩
  clear hI
  go_wp2
  go_ret2
  exact ⟨⟨u,rfl⟩,hb1.trans (hb2.mono hb1.size)⟩
 ·clear hu hA
  go_wp2
  go_ret2
  exact ⟨⟨u,rfl⟩,hb1⟩
def lateB (cs:List Cl) (n:Int) (s:ByteArray):ByteArray:=if lateD cs n=true then s ++ ⟨#[32,108,97,116,101]⟩ else s
set_option maxRecDepth 20000 in
set_option maxHeartbeats 4000000 in
theorem latefn_any {w:World} {B ph bx:Nat} {cv:Value} {cs:List Cl} {T:Fig} (hp:RPerAt w B ph cv cs T) (hl:cs.length≤1000) (hbx:w.cell? ⟨bx,0,none⟩=some (.pointer (some ⟨ph,0,none⟩))) (s:ByteArray) (hs:s.size≤1000) (n:Int) :
  Calls Tryz.prog 47 #[.string s,.int .i64 n,.pointer (some ⟨bx,0,none⟩)] w fun x w'=>x = .returned (.string (lateB cs n s))∧Below w.heap.size w w':=by
 have HL:=fun (W:World) (hb:Below w.heap.size w W)=>hidE (rlate_any (hp.below hb) hl n)
 have HX:Hid (lateB cs n s=if lateD cs n=true then s ++ ⟨#[32,108,97,116,101]⟩ else s):=rfl
 generalize lateD cs n=lb at HL HX
 rw [HX.out]
 clear hp HX
 go_enter Tryz.func47,Tryz.ntmps47
 go_wp2_with fail
 refine (HL w (Below.refl _ _)).out.mono ?_
 rintro x w1 ⟨rfl,hb1⟩
 clear HL hbx
 cases lb
 ·go_wp2
  go_ret
  exact ⟨rfl,hb1⟩
 ·go_wp2
  go_ret
  exact ⟨rfl,hb1⟩
theorem ixb_none:∀ (l:List UInt8),32 ∉ l→Lib.indexByte l 32 = -1
 | [],_=>rfl
 | x :: l,h=>by
  have hx:¬ x=32:=fun e=>h (by rw [e];exact List.mem_cons_self)
  have hl:32 ∉ l:=fun e=>h (List.mem_cons_of_mem _ e)
  have ih:=ixb_none l hl
  simp [Lib.indexByte,hx,ih]
theorem ixb_at:∀ (a b:List UInt8),32 ∉ a→Lib.indexByte (a ++ 32 :: b) 32=(a.length:Int)
 | [],b,_=>by simp [Lib.indexByte]
 | x :: a,b,h=>by
  have hx:¬ x=32:=fun e=>h (by rw [e];exact List.mem_cons_self)
  have hl:32 ∉ a:=fun e=>h (List.mem_cons_of_mem _ e)
  have ih:=ixb_at a b hl
  have hn:¬ ((a.length:Int) = -1):=by omega
  simp [Lib.indexByte,hx,ih,hn]
theorem ixb_any (l:List UInt8) (w:World):Calls Tryz.prog 45 #[.string (ba l),.int .u8 32] w fun e w'=>e = .returned (.int .i64 (Lib.indexByte l 32))∧w'=w:=by
 have h:=Tryz.strings_IndexByte (ba l) 32 w
 rw [ba_data] at h
 exact h
theorem ext_head (a b:List UInt8):(ba (a ++ 32 :: b)).extract 0 a.length=ba a:=by
 rw [← ba_of (ByteArray.extract _ _ _),ext_data,ba_data,List.drop_zero,List.take_left]
theorem ext_tail (a b:List UInt8):(ba (a ++ 32 :: b)).extract (a.length + 1) (a.length + 1 + b.length)=ba b:=by
 rw [← ba_of (ByteArray.extract _ _ _),ext_data,ba_data]
 congr 1
 rw [List.take_of_length_le (by simp;omega)]
 rw [show a ++ 32 :: b=(a ++ [32]) ++ b by simp,List.drop_left' (by simp)]
theorem tot_le:∀ (l:List (List UInt8)),(∀ t ∈ l,t.length≤200)→totL l≤216 * l.length
 | [],_=>by simp [totL]
 | t :: l,h=>by
  rw [tot_cons]
  have:=tot_le l fun u hu=>h u (List.mem_cons_of_mem _ hu)
  have:=h t (List.mem_cons_self ..)
  simp only [List.length_cons]
  omega
set_option maxRecDepth 20000 in
set_option maxHeartbeats 8000000 in
theorem rjour_any {w:World} {B ph:Nat} {sv cv lv:Value} {h:Hs} (A:RhAt w B ph sv cv lv h) (hn:h.ls.length≤10000) (hl:∀ t ∈ h.ls,t.length≤200) :
  Calls Tryz.prog 11 #[.pointer (some ⟨ph,0,none⟩)] w fun e w'=>e = .returned (.string (ba (framesL 0 h.ls)))∧Below w.heap.size w w':=by
 have hcl:=A.cl
 have hln:=A.ln
 have hlt:=A.lt
 obtain ⟨ls,hls⟩:∃ ls,ls=h.ls:=⟨_,rfl⟩
 rw [← hls] at hn hl hln ⊢
 obtain ⟨ao,cap,rfl,hcap,hst⟩:=strs_of_own hln
 have HST:Hid (StrsC w ao ls):=hst
 have HL:=hidE hl
 clear hst hln A hls hl
 go_enter Tryz.func11,Tryz.ntmps11
 go_wp2_with fail
 go_loopw [3,13] (fun s i wr=>∃ k:Nat,k≤ls.length∧i = .int .i64 k∧s = .string (ba (framesL 0 (ls.take k)))∧Below w.heap.size w wr) (fun _ i _=>ls.length - (intOf i).toNat)
 case atStart=>exact ⟨0,Nat.zero_le _,rfl,rfl,Below.refl _ _⟩
 case round=>
  obtain ⟨k,hk,rfl,rfl,hb⟩:=hrel
  by_cases hlt2:k < ls.length
  ·obtain ⟨b,o,e1,lt1,c1⟩:=HST.out.below hb (by omega)
   subst e1
   have d1:=c1 k hlt2
   have hmem:ls[k] ∈ ls:=List.getElem_mem hlt2
   have ht2:=HL.out _ hmem
   have HTK:Hid (framesL 0 (ls.take (k + 1))=framesL 0 (ls.take k) ++ frameL k ls[k]):=by
    show _=_
    rw [List.take_succ_eq_append_getElem hlt2,frames_snoc,List.length_take,Nat.min_eq_left hk,Nat.zero_add]
   have hsz:(ba (framesL 0 (ls.take k))).size≤2160000:=by
    rw [ba_size,frames_len]
    have:=tot_le (ls.take k) fun t ht=>HL.out t (List.mem_of_mem_take ht)
    rw [List.length_take] at this
    omega
   have FR:=rframe_ok k (ba ls[k])
   rw [ba_data] at FR
   obtain ⟨t,ht⟩:∃ t,t=ls[k]:=⟨_,rfl⟩
   rw [← ht] at d1 HTK FR ht2
   have hts:(ba t).size=t.length:=ba_size t
   unfold encS at d1
   have fsz:(ba (frameL k t)).size=16 + t.length:=by rw [ba_size,frame_len]
   clear c1 ht hmem
   go_wp2_with fail
   refine (FR _ (by omega) (by omega)).mono ?_
   rintro e w1 ⟨rfl,hb1⟩
   have HAP:ba (framesL 0 (ls.take k)) ++ ba (frameL k t)=ba (framesL 0 (ls.take k) ++ frameL k t):=ba_app _ _
   have hb2:=hb.trans (hb1.mono hb.size)
   clear FR hb1 d1
   go_wp2
   go_roundw
   case rel=>exact ⟨k + 1,by omega,by go_num,by rw [HTK.out],hb2⟩
   case measure=>simp [intOf];omega
  ·obtain rfl:k=ls.length:=by omega
   rw [List.take_length]
   go_wp2
   go_ret
   exact ⟨rfl,hb⟩
end Go.Proofs.YtdkhohlhdiekmaaGreatDoor
