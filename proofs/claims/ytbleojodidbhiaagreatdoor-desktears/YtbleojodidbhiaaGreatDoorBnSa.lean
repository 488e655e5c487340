/-  -/
import Derived.Test.YtbleojodidbhiaaGreatDoorBnA
import Derived.RangeFuncNested
import Derived.RangeFuncBound
import Derived.RangeFuncCalls
import Derived.RangeFuncLeaves
import Derived.Shelf.Abstract
import Derived.Shelf.RegionOpen
import Derived.OwnWalkIn
import Derived.TacticsInMore
import Derived.LoopNIn
import Derived.LoopIn
import Derived.Test.YtbleojodidbhiaaGreatDoorBnShb
import Derived.Test.YtbleojodidbhiaaGreatDoorBnJr
import Derived.Test.YtbleojodidbhiaaGreatDoorBnQe
import Derived.Test.YtbleojodidbhiaaGreatDoorBnLb
import Derived.RangeFuncOwn
import Derived.Test.YtbleojodidbhiaaGreatDoorBnB
namespace Go.Proofs.YtbleojodidbhiaaGreatDoor
open Go.RowKit
variable {F:Fence} {n:Nat} {P:Program}
def AbdK {β:Type} (sb B:Nat) (I:β→World→Prop):Prop:=
 ∀ s W W' row,I s W→W.grownBy W' row→(∀ r,row=some r→r=sb∨(B≤r∧∃ o:Obj,W.heap[r]?=some o∧o.isCells=false))→I s W'
theorem AbdK.put {β:Type} {sb B:Nat} {I:β→World→Prop} (h:AbdK sb B I) {s:β} {W:World} {l:Nat} {o:Obj} (o':Obj) (hs:I s W) (hB:B≤l) (hl:W.heap[l]?=some o) (ho:o.isCells=false):I s (W.putObj l o'):=
 h s W _ (some l) hs (grownBy_putObj' W l o') fun r e=>by cases e;exact Or.inr ⟨hB,o,hl,ho⟩
theorem AbdK.new {β:Type} {sb B:Nat} {I:β→World→Prop} (h:AbdK sb B I) {s:β} {W:World} (o:Obj) (hs:I s W):I s (W.alloc o):=
 h s W _ none hs (World.grownBy_alloc W o none) fun r e=>by cases e
def SeqK {α:Type} (F:Fence) (n:Nat) (P:Program) (gf:Nat) (lb:Array Value) (enc:α→Value) (sb:Nat) (Kp:Nat→Prop) (xs:List α) (w:World):Prop:=
 ∀ (l:Nat) (J Jx:List α→World→Prop) (W:World),Below w.heap.size w W→(∀ s W W',J s W→W.grownBy W' (some sb)→J s W') →
  (∀ pre x W1,J pre W1→pre ++ [x] <+: xs→YieldAt F (n - 1) P l #[enc x] W1 fun e W'=>
   (e = .returned (.bool true)∧J (pre ++ [x]) W'∧∀ k,Kp k→W'.heap[k]?=W1.heap[k]?)∨(e = .returned (.bool false)∧Jx (pre ++ [x]) W')) →
  J [] W→CallsIn F n P gf (#[.func (.yield l) #[] #[]] ++ lb) W fun e W'=>(∃ v,e = .returned v)∧(J xs W'∨∃ pre,pre <+: xs∧Jx pre W')
def bodyK {α:Type} (B:Nat) (Kp:Nat→Prop) (I Ix:List α→World→Prop) (xs:List α) (W:World):Exit→Act→World→Prop
 | .normal,_,W'=>KeepsFrom B W W'∧(∀ k,Kp k→W'.heap[k]?=W.heap[k]?)∧I xs W'
 | .ret,_,W'=>KeepsFrom B W W'∧Ix xs W'
 | _,_,_=>False
theorem wpIn_rangeK {α:Type} {g:Operand} {p:Tmp} {assign body:Code} {Q:Exit→Act→World→Prop} {a:Act} {w:World}
  (hro:F.round=none) (h1:1≤n) {gf:Nat} {lb:Array Value} (hg:a.eval g = .func (.func gf) #[] lb) (hFg:F.fn gf) (eg:∀ args w,(callFunc gf args).run P w = .ok (.enter gf args) w)
  {enc:α→Value} {sb:Nat} {Kp:Nat→Prop} {xs:List α} (hseq:SeqK F (n - 1) P gf lb enc sb Kp xs w) (hsb:sb < w.heap.size) (hkp:∀ k,Kp k→k < w.heap.size)
  (I Ix:List α→World→Prop) (hI:AbdK sb w.heap.size I) (hIx:AbdK sb w.heap.size Ix) (h0:I [] w) (a₁:α→Act)
  (hassign:∀ (l:Nat) (x:α) (W:World) (K:Act→World→Prop),K (a₁ x) W →
   assign.wpIn (F.inRound l) (n - 1 - 1) P (Exit.then K (fun _ _ _=>False)) { tmps:=((#[p]:Array Tmp).zip #[enc x]).foldl (fun t (p,v)=>t.setIfInBounds p v) a.tmps,defers:=[] } W)
  (hbody:∀ (l:Nat) (pre:List α) (x:α) (W:World),I pre W→pre ++ [x] <+: xs→body.wpIn (F.inRound l) (n - 1 - 1) P (bodyK w.heap.size Kp I Ix (pre ++ [x]) W) (a₁ x) W)
  (hdone:∀ (D:Nat) (W:World),w.heap.size≤D→I xs W→W.heap[D]?=some (.deferred (some []))→Q .normal { a with defers:={ target:=.collected D,args:=#[] } :: a.defers } W)
  (hstop:∀ (D:Nat) (pre:List α) (W:World),w.heap.size≤D→pre <+: xs→Ix pre W→W.heap[D]?=some (.deferred (some []))→Code.ret.wpIn F n P Q { a with defers:={ target:=.collected D,args:=#[] } :: a.defers } W) :
  (Code.rangeFunc g #[p] assign body).wpIn F n P Q a w:=by
 refine wpIn_rangeFunc fun fn hfn=>?_
 rw [hro]
 obtain ⟨rec,hrec⟩:∃ rec:LoopState→Option Code→Loop,rec=fun st pe=>{ state:=st,pending:=pe,fn,tmps:=a.tmps,params:=#[p],assign,body,defers:=w.heap.size }:=⟨_,rfl⟩
 obtain ⟨w1,hw1⟩:∃ x,x=(w.alloc (.deferred (some []))).alloc (.loop (rec .ready none)):=⟨_,rfl⟩
 have b1:Below w.heap.size w w1:=by rw [hw1];exact ((Below.refl _ w).alloc (Nat.le_refl _) _).alloc (by simp) _
 have l1:w1.heap[w.heap.size + 1]?=some (.loop (rec .ready none)):=by
  rw [hw1]
  have:=World.alloc_heap_new (w.alloc (.deferred (some []))) (.loop (rec .ready none))
  rwa [World.size_alloc] at this
 have d1:w1.heap[w.heap.size]?=some (.deferred (some [])):=by
  rw [hw1]
  exact (Below.heap_alloc _ _ _ (by simp)).trans (World.alloc_heap_new w _)
 have i1:I [] w1:=by rw [hw1];exact hI.new _ (hI.new _ h0)
 refine ⟨w.heap.size + 1,[{ target:=.collected w.heap.size,args:=#[] }],w1,{ target:=.fn (.func gf) lb,args:=#[.func (.yield (w.heap.size + 1)) #[] #[]] },w1,gf,
  #[.func (.yield (w.heap.size + 1)) #[] #[]] ++ lb,w1,by rw [hw1,hrec];exact run_enterLoop_outer _ _ _ _ _,by simp only [resolve,hg];simp [go_sem],fun f' hf'=>by simp [Target.leads] at hf';subst hf';exact hFg,by simp [invoke,go_sem,eg],fun _=>h1,?_⟩
 refine (hseq (w.heap.size + 1) (fun pre W=>I pre W∧W.heap[w.heap.size + 1]?=some (.loop (rec .ready none))∧W.heap[w.heap.size]?=some (.deferred (some [])))
  (fun pre W=>Ix pre W∧W.heap[w.heap.size + 1]?=some (.loop (rec .done (some .ret)))∧W.heap[w.heap.size]?=some (.deferred (some []))) w1 b1 ?abide ?yield ⟨i1,l1,d1⟩).mono ?behind
 case abide=>
  rintro s A A' ⟨hi,hl,hd⟩ hgr
  have keep:∀ k o,A.heap[k]?=some o→k ≠ sb→A'.heap[k]?=some o:=fun k o hk hne=>(hgr.block k (Array.getElem?_eq_some_iff.1 hk).1 (by intro e;injection e with e;exact hne e)).trans hk
  exact ⟨hI s A A' _ hi hgr (fun r e=>by cases e;exact Or.inl rfl),keep _ _ hl (by omega),keep _ _ hd (by omega)⟩
 case yield=>
  rintro pre x A ⟨hi,hl,hd⟩ hpre
  have hlt:w.heap.size + 1 < A.heap.size:=(Array.getElem?_eq_some_iff.1 hl).1
  have hy:=run_yield (P:=P) (args:=#[enc x]) hl (by rw [hrec];rfl)
  rw [hrec] at hy
  refine ⟨fn,_,assign,body,hy,roundIn_of_wpIn hfn (hassign _ x A _ ⟨_,run_beginRound hl (by rw [hrec]),?_⟩)⟩
  obtain ⟨A2,hA2⟩:∃ X,X=A.putObj (w.heap.size + 1) (.loop { rec .ready none with state:=.busy }):=⟨_,rfl⟩
  have l2:A2.heap[w.heap.size + 1]?=some (.loop { rec .ready none with state:=.busy }):=by rw [hA2];exact World.putObj_heap_same hlt
  have d2:A2.heap[w.heap.size]?=some (.deferred (some [])):=by rw [hA2];exact (World.putObj_heap_other (by omega)).trans hd
  have s2:∀ k,Kp k→A2.heap[k]?=A.heap[k]?:=fun k hk=>by have:=hkp k hk;rw [hA2];exact World.putObj_heap_other (by omega)
  have i2:I pre A2:=by rw [hA2];exact hI.put _ hi (by omega) hl rfl
  rw [← hA2]
  refine wpIn_mono (hbody _ pre x A2 i2 hpre) ?_
  have fin:∀ (jump:Option Code) (A3:World),KeepsFrom w.heap.size A2 A3→∃ A4,(Instr.endRound (w.heap.size + 1) jump).run P A3 = .ok (.bool jump.isNone) A4∧A4=A3.putObj (w.heap.size + 1) (.loop (rec (if jump.isNone then .ready else .done) jump)) ∧
    A3.heap[w.heap.size + 1]?=some (.loop { rec .ready none with state:=.busy })∧A4.heap[w.heap.size + 1]?=some (.loop (rec (if jump.isNone then .ready else .done) jump))∧A4.heap[w.heap.size]?=some (.deferred (some []))∧∀ k,Kp k→A4.heap[k]?=A3.heap[k]?:=fun jump A3 hk=>by
   have l3:=hk.same _ _ (by omega) l2 rfl
   refine ⟨_,by have:=run_endRound (P:=P) jump l3;rw [hrec] at this ⊢;exact this,rfl,l3,World.putObj_heap_same (Array.getElem?_eq_some_iff.1 l3).1,(World.putObj_heap_other (by omega)).trans (hk.same _ _ (Nat.le_refl _) d2 rfl),fun k hkk=>World.putObj_heap_other (by have:=hkp k hkk;omega)⟩
  intro e a3 A3 hp
  cases e with
  | normal=>
   obtain ⟨hk,hs,hi3⟩:=hp
   obtain ⟨A4,r4,e4,l3,l4,d4,s4⟩:=fin none A3 hk
   exact ⟨_,_,r4,.inl ⟨rfl,⟨by rw [e4];exact hI.put _ hi3 (by omega) l3 rfl,l4,d4⟩,fun k hk=>(s4 k hk).trans ((hs k hk).trans (s2 k hk))⟩⟩
  | ret=>
   obtain ⟨hk,hi3⟩:=hp
   obtain ⟨A4,r4,e4,l3,l4,d4,s4⟩:=fin (some .ret) A3 hk
   exact ⟨_,_,r4,.inr ⟨rfl,by rw [e4];exact hIx.put _ hi3 (by omega) l3 rfl,l4,d4⟩⟩
  | exit id=>exact hp.elim
  | goto t=>exact hp.elim
  | panic ch=>exact hp.elim
  | outgrown=>exact hp.elim
 case behind=>
  rintro e W2 ⟨⟨v,rfl⟩,⟨hi,hl,hd⟩ | ⟨pre,hpre,hi,hl,hd⟩⟩
  ·exact ⟨none,_,by have:=run_endLoop (P:=P) hl (by rw [hrec];simp);rw [hrec] at this;exact this,hdone _ _ (Nat.le_refl _) (hI.put _ hi (by omega) hl rfl) ((World.putObj_heap_other (by omega)).trans hd)⟩
  ·exact ⟨some .ret,_,by have:=run_endLoop (P:=P) hl (by rw [hrec];simp);rw [hrec] at this;exact this,hstop _ pre _ (Nat.le_refl _) hpre (hIx.put _ hi (by omega) hl rfl) ((World.putObj_heap_other (by omega)).trans hd)⟩
end Go.Proofs.YtbleojodidbhiaaGreatDoor
namespace Go.Proofs.YtbleojodidbhiaaGreatDoor
open Go.RowKit
attribute [local go_sem] Oper.semAt_some
def splitL:List UInt8→List (List UInt8)
 | []=>[[]]
 | b :: l=>if b=10 then [] :: splitL l else match splitL l with
  | []=>[[b]]
  | x :: xs=>(b :: x) :: xs
theorem split_hit:∀ (t r:List UInt8),(10:UInt8) ∉ t→splitL (t ++ 10 :: r)=t :: splitL r
 | [],r,_=>by simp [splitL]
 | b :: t,r,h=>by
  have hb:¬ b=10:=fun e=>h (by rw [e];exact List.mem_cons_self)
  have ih:=split_hit t r (fun hm=>h (List.mem_cons_of_mem _ hm))
  rw [List.cons_append,splitL,if_neg hb,ih]
theorem split_last:∀ (t:List UInt8),(10:UInt8) ∉ t→splitL t=[t]
 | [],_=>rfl
 | b :: t,h=>by
  have hb:¬ b=10:=fun e=>h (by rw [e];exact List.mem_cons_self)
  have ih:=split_last t (fun hm=>h (List.mem_cons_of_mem _ hm))
  rw [splitL,if_neg hb,ih]
theorem feed_spec (c:UInt8):∀ (s:List UInt8),(Lib.indexByte s c = -1∧c ∉ s)∨∃ a b,s=a ++ c :: b∧c ∉ a∧Lib.indexByte s c=a.length
 | []=>Or.inl ⟨rfl,by simp⟩
 | x :: s=>by
  by_cases e:x=c
  ·subst e;exact Or.inr ⟨[],s,rfl,by simp,by simp [Lib.indexByte]⟩
  ·have e':(x == c)=false:=by simpa using e
   rcases feed_spec c s with ⟨h,hn⟩ | ⟨a,b,rfl,hn,h⟩
   ·exact Or.inl ⟨by simp [Lib.indexByte,e',h],by simp [hn];exact fun h=>e h.symm⟩
   ·refine Or.inr ⟨x :: a,b,rfl,by simp [hn];exact fun h=>e h.symm,?_⟩
    have hne:((a.length:Int) == -1)=false:=by simp
    rw [Lib.indexByte,e',h,hne]
    simp
def encT (l:List UInt8):Value:=.string (ba l)
theorem ba_exT {x:ByteArray} {l:List UInt8} (h:x.data.toList=l):x=ba l:=by
 cases x
 simp at h
 simp [ba,← h]
theorem size_baT (x:ByteArray):x.size=x.data.toList.length:=by simp
def keptS (sb cb vb:Nat) (k:Nat):Prop:=k=sb∨k=cb∨k=vb
set_option maxRecDepth 100000 in
set_option maxHeartbeats 4000000 in
theorem split1_in (sb cb vb:Nat) (s:ByteArray) (w:World) (hs:s.size≤1000000) (hc:w.cell? ⟨sb,0,none⟩=some (.string s)) (hf:w.frozen? ⟨sb,0,none⟩=false)
  (h1:w.cell? ⟨cb,0,none⟩=some (.string ⟨#[10]⟩)) (h2:w.cell? ⟨vb,0,none⟩=some (.int .i64 0)) (n1:cb ≠ sb) (n2:vb ≠ sb) (n:Nat) (hn:1≤n) :
  SeqK Fence.wide n Tryz.prog 140 #[.pointer (some ⟨cb,0,none⟩),.pointer (some ⟨sb,0,none⟩),.pointer (some ⟨vb,0,none⟩)] encT sb (keptS sb cb vb) (splitL s.data.toList) w:=by
 intro l J Jx W hW hJ hY h0
 have hIB:=fun (x:ByteArray) (W:World)=>Tryz.strings_Index_one x 10 W
 have hfB:Fence.wide.fn 45:=trivial
 have hlt:=World.block_lt_of_cell? _ _ hc
 have hlt1:=World.block_lt_of_cell? _ _ h1
 have hlt2:=World.block_lt_of_cell? _ _ h2
 have c0:W.cell? ⟨sb,0,none⟩=some (.string s):=(hW.cell (p:=⟨sb,0,none⟩) hlt).trans hc
 have z0:W.frozen? ⟨sb,0,none⟩=false:=(hW.frozen (p:=⟨sb,0,none⟩) hlt).trans hf
 have c1:W.cell? ⟨cb,0,none⟩=some (.string ⟨#[10]⟩):=(hW.cell (p:=⟨cb,0,none⟩) hlt1).trans h1
 have c2:W.cell? ⟨vb,0,none⟩=some (.int .i64 0):=(hW.cell (p:=⟨vb,0,none⟩) hlt2).trans h2
 obtain ⟨xs,hxs⟩:∃ xs,xs=splitL s.data.toList:=⟨_,rfl⟩
 rw [← hxs] at hY ⊢
 have HY:=hidE hY
 have HJ:=hidE hJ
 have H0:=hidE h0
 have HXS:=hidE hxs
 have HC:=hidE c0
 have HZ:=hidE z0
 have HC1:=hidE c1
 have HC2:=hidE c2
 clear hY hJ h0 hxs hc hf hW c0 z0 h1 h2 c2 hlt hlt1 hlt2
 refine callsIn_of_wp Tryz.func140 rfl trivial ?_ rfl
 simp only [Tryz.ntmps140,List.size_toArray,List.length_cons,List.length_nil,Nat.reduceAdd,Nat.reduceSub,Array.replicate_succ,Array.replicate_zero,List.push_toArray,List.append_toArray,List.nil_append,List.cons_append]
 gi_wp2
 clear c1
 gi_loopw [] (fun wr=>∃ (pre:List (List UInt8)) (cur:ByteArray),cur.size≤1000000∧Hid (wr.cell? ⟨sb,0,none⟩=some (.string cur))∧Hid (wr.frozen? ⟨sb,0,none⟩=false)∧Hid (wr.cell? ⟨cb,0,none⟩=some (.string ⟨#[10]⟩))∧Hid (wr.cell? ⟨vb,0,none⟩=some (.int .i64 0))∧Hid (xs=pre ++ splitL cur.data.toList)∧Hid (J pre wr)) (fun wr=>match wr.cell? ⟨sb,0,none⟩ with | some (.string c)=>c.size | _=>0)
 case atStart=>exact ⟨[],s,hs,HC,HZ,HC1,HC2,HXS,H0⟩
 case round=>
  obtain ⟨pre,cur,hcs,HC,HZ,HC1,HC2,HX,HJp⟩:=hrel
  have c0:=HC.out
  have z0:=HZ.out
  have c1:=HC1.out
  have c2:=HC2.out
  rcases feed_spec 10 cur.data.toList with ⟨hi,hno⟩ | ⟨a,b,hab,hno,hi⟩
  ·have hcall:=fun W=>hIB cur W
   simp only [hi] at hcall
   have hX2:xs=pre ++ [cur.data.toList]:=by rw [HX.out,split_last _ hno]
   have hyy:=HY.out pre cur.data.toList wr HJp.out (by rw [hX2];exact List.prefix_rfl)
   have e1:encT cur.data.toList = .string cur:=by unfold encT;rw [← ba_exT rfl]
   rw [e1] at hyy
   obtain ⟨fn,tmps,assign,body,hy,hR⟩:=hyy
   have HX2:=hidE hX2
   have HR:=hidE hR
   clear hX2 hR e1 hi hno hIB
   gi_wp2_with (gi_at_call 45;refine (callsIn_wide.2 (hcall _)).mono ?_;rintro e w' ⟨rfl,rfl⟩)
   refine HR.out.mono ?_
   rintro e W3 (⟨rfl,hJ3,hs3⟩ | ⟨rfl,hJx3⟩)
   ·gi_wp2
    go_end0
    exact ⟨⟨_,rfl⟩,.inl (by rw [HX2.out];exact hJ3)⟩
   ·gi_wp2
    go_end0
    exact ⟨⟨_,rfl⟩,.inr ⟨_,by rw [HX2.out];exact List.prefix_rfl,hJx3⟩⟩
  ·have hcall:=fun W=>hIB cur W
   simp only [hi] at hcall
   have hal:a.length + 1≤cur.size:=by rw [size_baT,hab];simp
   have eA:(cur.extract 0 a.length).data.toList=a:=by
    rw [ByteArray.data_extract,Array.toList_extract,hab]
    simp
   have eB:(cur.extract (a.length + 1) cur.size).data.toList=b:=by
    rw [ByteArray.data_extract,Array.toList_extract,size_baT,hab]
    simp
    exact List.take_of_length_le (by omega)
   have hszB:(cur.extract (a.length + 1) cur.size).size < cur.size:=by
    rw [size_baT,eB,size_baT,hab]
    simp
    omega
   obtain ⟨lx,hlx⟩:∃ x,x=cur.extract 0 a.length:=⟨_,rfl⟩
   obtain ⟨nx,hnx⟩:∃ x,x=cur.extract (a.length + 1) cur.size:=⟨_,rfl⟩
   rw [← hlx] at eA
   rw [← hnx] at eB hszB
   have hX2:xs=(pre ++ [lx.data.toList]) ++ splitL nx.data.toList:=by rw [HX.out,hab,split_hit a b hno,eA,eB];simp
   have hyy:=HY.out pre lx.data.toList wr HJp.out (by rw [hX2];exact List.prefix_append _ _)
   have e1:encT lx.data.toList = .string lx:=by unfold encT;rw [← ba_exT rfl]
   rw [e1] at hyy
   obtain ⟨fn,tmps,assign,body,hy,hR⟩:=hyy
   have HX2:=hidE hX2
   have HR:=hidE hR
   have HLX:=hidE hlx
   have HNX:=hidE hnx
   clear hi hab hno hIB hX2 hR e1 eA eB hlx hnx
   gi_wp2_with (gi_at_call 45;refine (callsIn_wide.2 (hcall _)).mono ?_;rintro e w' ⟨rfl,rfl⟩)
   rw [← HLX.out,hy]
   refine ⟨fun _=>hn,?_⟩
   refine HR.out.mono ?_
   rintro e W3 (⟨rfl,hJ3,hs3⟩ | ⟨rfl,hJx3⟩)
   ·have d0:W3.cell? ⟨sb,0,none⟩=some (.string cur):=(World.cell?_of_block (a:=⟨sb,0,none⟩) (hs3 sb (Or.inl rfl))).trans HC.out
    have y0:W3.frozen? ⟨sb,0,none⟩=false:=(World.frozen?_of_block (a:=⟨sb,0,none⟩) (hs3 sb (Or.inl rfl))).trans HZ.out
    have d1:W3.cell? ⟨cb,0,none⟩=some (.string ⟨#[10]⟩):=(World.cell?_of_block (a:=⟨cb,0,none⟩) (hs3 cb (Or.inr (Or.inl rfl)))).trans HC1.out
    have d2:W3.cell? ⟨vb,0,none⟩=some (.int .i64 0):=(World.cell?_of_block (a:=⟨vb,0,none⟩) (hs3 vb (Or.inr (Or.inr rfl)))).trans HC2.out
    obtain ⟨W4,hW4⟩:∃ X,X=W3.setCell ⟨sb,0,none⟩ (.string nx):=⟨_,rfl⟩
    have g4:W3.grownBy W4 (some sb):=by rw [hW4];exact ⟨rfl,rfl,rfl,by simp,fun k _ hk=>Below.heap_setCell _ _ _ k (fun e=>hk (by rw [e]))⟩
    have HC4:Hid (W4.cell? ⟨sb,0,none⟩=some (.string nx)):=by show _=_;rw [hW4];exact World.cell?_setCell_same _ _ _ d0
    have HZ4:Hid (W4.frozen? ⟨sb,0,none⟩=false):=by show _=_;rw [hW4,World.frozen?_setCell];exact y0
    have HC14:Hid (W4.cell? ⟨cb,0,none⟩=some (.string ⟨#[10]⟩)):=by show _=_;rw [hW4,World.cell?_setCell_other _ _ _ _ (by simp)];exact d1
    have HC24:Hid (W4.cell? ⟨vb,0,none⟩=some (.int .i64 0)):=by show _=_;rw [hW4,World.cell?_setCell_other _ _ _ _ (by simp)];exact d2
    have HJ4:Hid (J (pre ++ [lx.data.toList]) W4):=HJ.out _ _ _ hJ3 g4
    have HW4:=hidE hW4
    clear hs3 hJ3 g4 hW4 c0 c1 c2 z0 hy
    gi_wp2
    rw [← HNX.out,← HW4.out]
    refine ⟨⟨pre ++ [lx.data.toList],nx,by omega,HC4,HZ4,HC14,HC24,HX2,HJ4⟩,?_⟩
    rw [HC4.out,HC.out]
    exact hszB
   ·gi_wp2
    refine bodyPost_ret (results_none rfl _ _ _) rfl ?_
    exact ⟨⟨_,rfl⟩,.inr ⟨pre ++ [lx.data.toList],by rw [HX2.out];exact List.prefix_append _ _,hJx3⟩⟩
set_option maxHeartbeats 1000000 in
theorem splitSeq_any (s:ByteArray) (w:World) :
  Calls Tryz.prog 38 #[.string s,.string ⟨#[10]⟩] w fun e w'=>e = .returned (.func (.func 140) #[] #[.pointer (some ⟨w.heap.size + 1,0,none⟩),.pointer (some ⟨w.heap.size,0,none⟩),.pointer (some ⟨w.heap.size + 1 + 1,0,none⟩)]) ∧
   w'=((w.alloc (.cells #[.string s] 9)).alloc (.cells #[.string ⟨#[10]⟩] 9)).alloc (.cells #[.int .i64 0] 3):=by
 go_enter Tryz.func38,Tryz.ntmps38
 go_wp2
 go_ret
 exact ⟨rfl,rfl⟩
end Go.Proofs.YtbleojodidbhiaaGreatDoor
set_option linter.unusedVariables false
namespace Go.Proofs.YtbleojodidbhiaaGreatDoor
open Go.RowKit
structure DkG (N:Nat) (h:Hs):Prop where
 ok:HsOk h
 x:HsX h
 md:Made h
 n:h.ls.length≤N
 tt:totL h.ls≤5 * N
theorem dkg_zero:DkG 0 hs0:=⟨ok_zero,hsx_zero,made_zero,Nat.le_refl _,Nat.le_refl _⟩
theorem DkG.up {N M:Nat} {h:Hs} (g:DkG N h) (hN:N≤M):DkG M h:=⟨g.ok,g.x,g.md,Nat.le_trans g.n hN,Nat.le_trans g.tt (by omega)⟩
theorem DkG.dk {N:Nat} {h:Hs} (g:DkG N h) (hN:N≤9900):DkOk h:=⟨g.ok,by have:=g.n;omega,g.x,g.md,by have:=g.tt;omega⟩
theorem h_at (h:Hs) (ws:List (List UInt8)):(atA h ws).h=h:=by
 unfold atA
 repeat' split
 all_goals rfl
theorem h_change (h:Hs) (ws:List (List UInt8)):(changeA h ws).h=h:=by
 unfold changeA
 repeat' split
 all_goals rfl
theorem h_closed (h:Hs) (ws:List (List UInt8)):(closedA h ws).h=h:=by
 unfold closedA
 repeat' split
 all_goals rfl
theorem h_day (h:Hs) (ws:List (List UInt8)):(dayA h ws).h=h:=by
 unfold dayA
 repeat' split
 all_goals rfl
theorem h_events (h:Hs) (ws:List (List UInt8)):(eventsA h ws).h=h:=by
 unfold eventsA
 repeat' split
 all_goals rfl
theorem h_help (h:Hs) (ws:List (List UInt8)):(helpA h ws).h=h:=by
 unfold helpA
 repeat' split
 all_goals rfl
theorem h_history (h:Hs) (ws:List (List UInt8)):(historyA h ws).h=h:=by
 unfold historyA
 repeat' split
 all_goals rfl
theorem h_moves (h:Hs) (ws:List (List UInt8)):(movesA h ws).h=h:=by
 unfold movesA
 repeat' split
 all_goals rfl
theorem h_months (h:Hs) (ws:List (List UInt8)):(monthsA h ws).h=h:=by
 unfold monthsA
 repeat' split
 all_goals rfl
theorem h_open (h:Hs) (ws:List (List UInt8)):(openA h ws).h=h:=by
 unfold openA
 repeat' split
 all_goals rfl
theorem h_trial (h:Hs) (ws:List (List UInt8)):(trialA h ws).h=h:=by
 unfold trialA
 repeat' split
 all_goals rfl
theorem h_turn (h:Hs) (ws:List (List UInt8)):(turnA h ws).h=h:=by
 unfold turnA
 repeat' split
 all_goals rfl
theorem h_tear (h:Hs) (ws:List (List UInt8)):(tearA h ws).h=h∨∃ n,(tearA h ws).h=tornH h n:=by
 unfold tearA
 repeat' split
 all_goals first
  | exact Or.inl rfl
  | exact Or.inr ⟨_,rfl⟩
theorem desk_h (h:Hs) (s:List UInt8) (ws:List (List UInt8)):(deskA h s ws).h=h∨((deskA h s ws).h=(doH h (s ++ 32 :: joinB ws)).h∧4≤s.length)∨∃ n,(deskA h s ws).h=tornH h n:=by
 have hd:(doA h s ws).h=(doH h (s ++ 32 :: joinB ws)).h:=rfl
 unfold deskA
 by_cases n0:s=dAt
 ·rw [if_pos n0]
  exact Or.inl (h_at h ws)
 rw [if_neg n0]
 by_cases n1:s=dChange
 ·rw [if_pos n1]
  exact Or.inl (h_change h ws)
 rw [if_neg n1]
 by_cases n2:s=wClose
 ·rw [if_pos n2]
  exact Or.inr (Or.inl ⟨hd,by rw [n2];decide⟩)
 rw [if_neg n2]
 by_cases n3:s=dClosed
 ·rw [if_pos n3]
  exact Or.inl (h_closed h ws)
 rw [if_neg n3]
 by_cases n4:s=wCorr
 ·rw [if_pos n4]
  exact Or.inr (Or.inl ⟨hd,by rw [n4];decide⟩)
 rw [if_neg n4]
 by_cases n5:s=dDay
 ·rw [if_pos n5]
  exact Or.inl (h_day h ws)
 rw [if_neg n5]
 by_cases n6:s=dEvents
 ·rw [if_pos n6]
  exact Or.inl (h_events h ws)
 rw [if_neg n6]
 by_cases n7:s=dHelp
 ·rw [if_pos n7]
  exact Or.inl (h_help h ws)
 rw [if_neg n7]
 by_cases n8:s=dHistory
 ·rw [if_pos n8]
  exact Or.inl (h_history h ws)
 rw [if_neg n8]
 by_cases n9:s=dMoves
 ·rw [if_pos n9]
  exact Or.inl (h_moves h ws)
 rw [if_neg n9]
 by_cases n10:s=dMonths
 ·rw [if_pos n10]
  exact Or.inl (h_months h ws)
 rw [if_neg n10]
 by_cases n11:s=dOpen
 ·rw [if_pos n11]
  exact Or.inl (h_open h ws)
 rw [if_neg n11]
 by_cases n12:s=wPost
 ·rw [if_pos n12]
  exact Or.inr (Or.inl ⟨hd,by rw [n12];decide⟩)
 rw [if_neg n12]
 by_cases n13:s=dSum
 ·rw [if_pos n13]
  exact Or.inl rfl
 rw [if_neg n13]
 by_cases n14:s=dTear
 ·rw [if_pos n14]
  rcases h_tear h ws with x | x
  ·exact Or.inl x
  ·exact Or.inr (Or.inr x)
 rw [if_neg n14]
 by_cases n15:s=dTrial
 ·rw [if_pos n15]
  exact Or.inl (h_trial h ws)
 rw [if_neg n15]
 by_cases n16:s=dTurn
 ·rw [if_pos n16]
  exact Or.inl (h_turn h ws)
 rw [if_neg n16]
 by_cases n17:s=wVoid
 ·rw [if_pos n17]
  exact Or.inr (Or.inl ⟨hd,by rw [n17];decide⟩)
 rw [if_neg n17]
 exact Or.inl rfl
theorem DkG.torn {N:Nat} {h:Hs} (g:DkG N h) (hN:N≤9900) (n:Int):DkG N (tornH h n):=by
 unfold tornH
 have hgd:=g.md.good.take (wholeK n.toNat h.ls)
 have hl:(h.ls.take (wholeK n.toNat h.ls)).length≤N:=by rw [List.length_take];have:=g.n;omega
 have hrl:=run_ls _ (h.ls.take (wholeK n.toNat h.ls)) rfl hgd
 refine ⟨ok_run _ _ rfl (by omega) hgd,hsx_run _ _ rfl (by omega) hgd,made_run hgd,by rw [hrl];exact hl,?_⟩
 rw [hrl]
 exact Nat.le_trans (tot_take _ _) g.tt
theorem DkG.did {N:Nat} {h:Hs} (g:DkG N h) (hN:N≤9900) (t:List UInt8) (m:Nat) (hm:t.length≤m) (h1:4≤m):DkG (N + m) (doH h t).h:=by
 have hls:=g.n
 have htt:=g.tt
 by_cases hc:(doH h t).c=0
 ·obtain ⟨e,_⟩:=do_ok hc
  refine ⟨do_keeps t g.ok (by omega),hsx_do g.x g.ok (by omega) t,g.md.step t,?_,?_⟩
  ·rw [e,List.length_append,List.length_singleton];omega
  ·rw [e,tot_snoc];omega
 ·obtain ⟨e,_⟩:=do_err hc
  rw [e]
  exact g.up (by omega)
theorem DkG.line {N:Nat} {h:Hs} (g:DkG N h) (hN:N≤9900) (l:List UInt8):DkG (N + (l.length + 1)) (lineA h l).2:=by
 rw [line_ans]
 have hj:=join_len l none
 rcases hf:fieldsL l with _ | ⟨s,ws⟩
 ·exact g.up (by omega)
 ·show DkG _ (deskA h s ws).h
  have hjl:(joinB (s :: ws)).length≤l.length:=by
   rw [← hf]
   have:=hj.1
   simp only [Option.getD_none,List.length_nil,Nat.add_zero] at this
   exact this
  have hsl:(s ++ 32 :: joinB ws).length≤l.length + 1:=by
   cases ws with
   | nil=>simp [joinB] at hjl ⊢;omega
   | cons y r=>rw [joinB] at hjl;omega
  have hs4:=mem_join (ws:=s :: ws) (t:=s) (List.mem_cons_self ..)
  rcases desk_h h s ws with e | ⟨e,h4⟩ | ⟨n,e⟩
  ·rw [e];exact g.up (by omega)
  ·rw [e];exact g.did hN _ _ hsl (by omega)
  ·rw [e];exact (g.torn hN n).up (by omega)
def wtL (ls:List (List UInt8)):Nat:=(ls.map fun l=>l.length + 1).sum
theorem wt_cons (l:List UInt8) (ls:List (List UInt8)):wtL (l :: ls)=l.length + 1 + wtL ls:=by simp [wtL]
theorem wt_app (a b:List (List UInt8)):wtL (a ++ b)=wtL a + wtL b:=by simp [wtL]
theorem wt_split:∀ l:List UInt8,wtL (splitL l)=l.length + 1
 | []=>rfl
 | b :: l=>by
  have ih:=wt_split l
  rw [splitL]
  split
  ·rw [wt_cons,ih];simp;omega
  ·split
   ·rename_i e;rw [e] at ih;simp [wtL] at ih
   ·rename_i x xs e
    rw [e,wt_cons] at ih
    rw [wt_cons,List.length_cons,List.length_cons]
    omega
theorem dkg_sess:∀ (ls:List (List UInt8)) (N:Nat) (h:Hs),DkG N h→N + wtL ls≤9900→DkG (N + wtL ls) (sessH h ls)
 | [],N,h,g,_=>g
 | l :: ls,N,h,g,hb=>by
  rw [wt_cons] at hb ⊢
  have:=dkg_sess ls (N + (l.length + 1)) (lineA h l).2 (g.line (by omega) l) (by omega)
  rw [sessH,show N + (l.length + 1 + wtL ls)=N + (l.length + 1) + wtL ls by omega]
  exact this
theorem split_ne:∀ (l:List UInt8) (t:List UInt8),t ∈ splitL l→(10:UInt8) ∉ t
 | [],t,h=>by simp [splitL] at h;rw [h];simp
 | b :: l,t,h=>by
  rw [splitL] at h
  split at h
  ·rcases List.mem_cons.1 h with rfl | h
   ·simp
   ·exact split_ne l t h
  ·rename_i hb
   split at h
   ·rename_i e;simp at h;rw [h];simp;exact fun e=>hb e.symm
   ·rename_i x xs e
    rcases List.mem_cons.1 h with rfl | h
    ·have:=split_ne l x (by rw [e];exact List.mem_cons_self ..)
     simp [this];exact fun e=>hb e.symm
    ·exact split_ne l t (by rw [e];exact List.mem_cons_of_mem _ h)
end Go.Proofs.YtbleojodidbhiaaGreatDoor
namespace Go.Proofs.YtbleojodidbhiaaGreatDoor
open Go.RowKit
section
variable {P:Program} (w:World)
theorem append_freshS (base:Nat) (t u ty e:TypeId) (i:TypeInfo) (ht:P.underlying t=some (.slice e)) (hu:P.underlying u=some .string) (hi:P.info? e=some i) (hz:i.zero=some (.int .u8 0))
  (hsize:i.size=1) (hby:i.bytes=1) (v:Value) (n:Nat) (xs:List Value) (hown:w.ownsRow base e 1 v n xs) (s:ByteArray)
  (h63:n + s.size≤maxLen) (hbytes:n + s.size≤140737488355328) {v':Value} {w':World} (hr:(Builtin.append_ #[t,u] ty #[v,.string s]).run P w = .ok v' w'):Fresh w v v':=by
 have hsmall:n + s.size≤9223372036854775807:=by simp only [maxLen] at h63;omega
 have hxl:xs.length=n:=by simpa using hown.1
 rcases hown.2 with ⟨rfl,rfl⟩ | ⟨g,cap,cur,rfl,hbg,hg,hnc,hcm,hcs,htake⟩
 ·obtain rfl:xs=[]:=List.eq_nil_of_length_eq_zero hxl
  obtain ⟨v2,w2,hr2,ho2,-,-⟩:=Lib.run_append_own_string (P:=P) w w.heap.size t u ty e i ht hu hi hz hsize hby (.slice none 0 0) 0 [] (World.ownsRow_nil _ _ _ _) s h63 hbytes (Nat.le_refl _)
  rw [hr2] at hr
  cases hr
  intro k hk
  exact Or.inr (ho2.lt k hk).1
 ·by_cases hroom:n + s.size≤cap
  ·have hcs':cur.size=cap:=by simpa using hcs
   have hr2:=Lib.run_append_room_string (P:=P) w t u ty e i ht hu hi hsize g n cap cur hg s hroom (by omega)
   rw [hr2] at hr
   cases hr
   exact fun k hk=>Or.inl (by simpa [Value.ownBlock] using hk)
  ·have holds:∀ j u,xs[j]?=some u→w.cell? ((⟨g,0,none⟩:Addr).add j)=some u:=hown.cells (g:=g) rfl
   have hr2:=Lib.run_append_grow_string (P:=P) w t u ty e i (.int .u8 0) ht hu hi hz ⟨g,0,none⟩ n cap xs (by rw [hsize];simpa using hxl) holds s (by omega) (by omega) (by rw [hby];exact growslice_fits (by omega) (by omega))
   rw [hr2] at hr
   cases hr
   intro k hk
   simp [Value.ownBlock] at hk
   exact Or.inr (by omega)
theorem wpList_append_strF {ops:Array Oper} {rest:List Oper} {o:Oper} {a:Act} {Q:Exit→Act→World→Prop} (hgd:o.guard=none) (sl x:Operand) (t u:TypeId)
  (ho:o.op = .call { callee:=.builtin .append,args:=#[sl,x],argTypes:=#[t,u] })
  (base:Nat) (e:TypeId) (i:TypeInfo) (ht:P.underlying t=some (.slice e)) (hu:P.underlying u=some .string) (hi:P.info? e=some i) (hz:i.zero=some (.int .u8 0))
  (hsize:i.size=1) (hby:i.bytes=1)
  (v:Value) (n:Nat) (xs:List Value) (hs:a.eval sl=v) (hown:w.ownsRow base e 1 v n xs) (s:ByteArray) (hx:a.eval x = .string s)
  (h63:n + s.size≤maxLen) (hbytes:n + s.size≤140737488355328) (hbase:base≤w.heap.size)
  (h:∀ v' w',w'.ownsRow base e 1 v' (n + s.size) (xs ++ Lib.strCells s)→w.grownBy w' v.ownBlock→Fresh w v v'→wpList P ops Q rest (a.put o.dst v') w'):wpList P ops Q (o :: rest) a w:=by
 refine wpList_plain hgd fun K hK=>?_
 obtain ⟨v',w',hr,h2,h3,h4⟩:=Lib.run_append_own_string (P:=P) w base t u o.type e i ht hu hi hz hsize hby v n xs hown s h63 hbytes hbase
 have hf:=append_freshS w base t u o.type e i ht hu hi hz hsize hby v n xs hown s h63 hbytes hr
 unfold Oper.wp execOp
 simp only [ho,resolve,invoke,builtin,Sem.run_bind,Sem.run_pure,Result.andThen_ok,List.map_toArray,List.map_cons,List.map_nil,hs,hx,hr]
 exact hK _ _ (h v' w' h2 h3 hf)
end
structure BlAt (w:World) (B b:Nat) (v:Value) (bs:List Value):Prop where
 hp:∃ p,(p = .pointer none∨p = .pointer (some ⟨b,0,none⟩))∧w.heap[b]?=some (.cells #[p,v] 64 (0,0))
 own:w.ownsRow B 5 1 v bs.length bs
 ne:v.ownBlock ≠ some b
 ge:B≤b
theorem BlAt.lt {w:World} {B b:Nat} {v:Value} {bs:List Value} (h:BlAt w B b v bs):b < w.heap.size:=by
 obtain ⟨p,_,hb⟩:=h.hp
 exact (Array.getElem?_eq_some_iff.1 hb).1
theorem BlAt.is {w:World} {B b:Nat} {v:Value} {bs:List Value} (h:BlAt w B b v bs):Lib.IsBuilder 64 5 B b bs w:=by
 obtain ⟨p,rfl | rfl,hb⟩:=h.hp
 ·exact Or.inl ⟨h.ge,v,hb,h.own,h.ne⟩
 ·exact Or.inr ⟨h.ge,v,hb,h.own,h.ne⟩
structure BTurn (w w':World) (b:Nat) (v v':Value):Prop where
 os:w'.os=w.os
 tape:w'.tape=w.tape
 output:w'.output=w.output
 size:w.heap.size≤w'.heap.size
 block:∀ k,k < w.heap.size→k ≠ b→v.ownBlock ≠ some k→w'.heap[k]?=w.heap[k]?
 fresh:Fresh w v v'
theorem BlAt.same {w w':World} {B b:Nat} {v:Value} {bs:List Value} (h:BlAt w B b v bs) (eb:w'.heap[b]?=w.heap[b]?) (ev:∀ k,v.ownBlock=some k→w'.heap[k]?=w.heap[k]?):BlAt w' B b v bs:=by
 obtain ⟨p,hp,hb⟩:=h.hp
 exact ⟨⟨p,hp,eb.trans hb⟩,row_same h.own ev,h.ne,h.ge⟩
set_option maxHeartbeats 2000000 in
set_option maxRecDepth 100000 in
theorem bwriteD (B b:Nat) (v:Value) (bs:List Value) (s:ByteArray) (w:World) (h:BlAt w B b v bs) (hlen:bs.length + s.size≤140737488355328) (hBw:B≤w.heap.size) :
  Calls Tryz.prog 29 #[.pointer (some ⟨b,0,none⟩),.string s] w fun e w'=>e = .returned (.tuple #[.int .i64 s.size,.nilIface])∧∃ v',BlAt w' B b v' (bs ++ Lib.strCells s)∧BTurn w w' b v v':=by
 obtain ⟨i0,hi,hz0,hz1,hz2⟩:=info_parts byte_info
 have hck:Calls Tryz.prog 55 #[.pointer (some ⟨b,0,none⟩)] w fun e w1=>e = .returned (.tuple #[])∧(w1.heap[b]?=some (.cells #[.pointer (some ⟨b,0,none⟩),v] 64 (0,0))∧(∀ k,k ≠ b→w1.heap[k]?=w.heap[k]?)∧w1.heap.size=w.heap.size∧w1.os=w.os∧w1.tape=w.tape∧w1.output=w.output):=by
  obtain ⟨p,rfl | rfl,hb⟩:=h.hp
  ·have hB:Lib.BuilderAt 64 5 B b (.pointer none) bs w:=⟨h.ge,v,hb,h.own,h.ne⟩
   refine (check_fresh b w hB.cell0 hB.shape hB.frozen0).mono ?_
   rintro e w' ⟨rfl,rfl⟩
   refine ⟨rfl,?_,fun k hk=>Below.heap_setCell _ _ _ _ hk,by simp [World.setCell],rfl,rfl,rfl⟩
   simp [World.setCell,Array.getElem?_modify,hb]
  ·refine (check_used b w (by rw [Lib.cell_of_heap hb];rfl)).mono ?_
   rintro e w' ⟨rfl,rfl⟩
   exact ⟨rfl,hb,fun _ _=>rfl,rfl,rfl,rfl,rfl⟩
 have hown:=h.own
 have hne:=h.ne
 have hge:=h.ge
 go_enter Tryz.func29,Tryz.ntmps29
 go_wp2_with fail
 refine hck.mono ?_
 rintro e w1 ⟨rfl,hbk,hoth,hsz,ho1,ho2,ho3⟩
 have hown1:w1.ownsRow B 5 1 v bs.length bs:=row_same hown fun k hk=>hoth k (fun e=>hne (e ▸ hk))
 have c0:w1.cell? ⟨b,0,none⟩=some (.pointer (some ⟨b,0,none⟩)):=by rw [Lib.cell_of_heap hbk];rfl
 have c1:w1.cell? ⟨b,1,none⟩=some v:=by rw [Lib.cell_of_heap hbk];rfl
 have HH:=hidE (And.intro hsz (And.intro hoth (And.intro ho1 (And.intro ho2 ho3))))
 clear hsz hoth ho1 ho2 ho3 hck
 go_wp2_with (at_builtin;refine wpList_append_strF _ rfl _ _ 62 9 rfl B 5 i0 Tryz.underlying62 Tryz.underlying9 hi hz0 hz1 hz2 _ _ _ rfl hown1 s rfl ?c3 ?c4 ?c5 ?_)
 case c3=>unfold maxLen;omega
 case c4=>omega
 case c5=>have:=HH.out.1;omega
 intro v' w2 hown' hgrow hfr
 have hlt:b < w1.heap.size:=(Array.getElem?_eq_some_iff.1 hbk).1
 have hb2:w2.heap[b]?=some (.cells #[.pointer (some ⟨b,0,none⟩),v] 64 (0,0)):=by
  rw [hgrow.block b hlt (fun e=>hne e.symm)]
  exact hbk
 have d0:w2.cell? ⟨b,0,none⟩=some (.pointer (some ⟨b,0,none⟩)):=by rw [Lib.cell_of_heap hb2];rfl
 have d1:w2.cell? ⟨b,1,none⟩=some v:=by rw [Lib.cell_of_heap hb2];rfl
 have f1:w2.frozen? ⟨b,1,none⟩=false:=Lib.frozen_of_heap hb2 1
 obtain ⟨ao,n',cap,hv'⟩:∃ ao n' cap,v' = .slice ao n' cap:=by
  rcases hown'.2 with ⟨hv,_⟩ | ⟨g,cap,cur,hv,_⟩
  ·exact ⟨_,_,_,hv⟩
  ·exact ⟨_,_,_,hv⟩
 subst hv'
 have HO:=hidE hown'
 have HGR:=hidE hgrow
 have HFR:=hidE hfr
 have HB2:=hidE hb2
 have HLT:=hidE hlt
 clear hown' hgrow hfr hb2 hlt c0 c1 hown hown1
 go_wp2
 go_ret2
 have hnb:(Value.slice ao n' cap).ownBlock ≠ some b:=fun e=>by
  rcases HFR.out b e with x | x
  ·exact hne x
  ·have:=HLT.out;omega
 refine ⟨rfl,.slice ao n' cap,⟨⟨.pointer (some ⟨b,0,none⟩),Or.inr rfl,?_⟩,?_,hnb,hge⟩,?_⟩
 ·have hb2:=HB2.out
  simp [World.setCell,Array.getElem?_modify,hb2]
 ·rw [List.length_append,Lib.strCells_length]
  exact row_same HO.out fun k hk=>Below.heap_setCell _ _ _ _ (fun e=>hnb (hk.trans (congrArg some e)))
 ·refine ⟨HGR.out.os.trans HH.out.2.2.1,HGR.out.tape.trans HH.out.2.2.2.1,HGR.out.output.trans HH.out.2.2.2.2,?_,fun k hk hkb hkv=>?_,?_⟩
  ·have h1:=HGR.out.size
   have h2:=HH.out.1
   simp [World.setCell]
   omega
  ·have h2:=HH.out.1
   exact (Below.heap_setCell _ _ _ _ hkb).trans ((HGR.out.block k (by omega) (fun e=>hkv e.symm)).trans (HH.out.2.1 k hkb))
  ·intro k hk
   rcases HFR.out k hk with x | x
   ·exact Or.inl x
   ·exact Or.inr (by have:=HH.out.1;omega)
theorem byte_cells1:Tryz.prog.cellsOf 5=1:=by kernel_rfl
set_option maxHeartbeats 2000000 in
set_option maxRecDepth 100000 in
theorem bstringD (B b:Nat) (v:Value) (l:List UInt8) (w:World) (h:BlAt w B b v (Lib.byteCells l)) (h0:l ≠ []) :
  Calls Tryz.prog 30 #[.pointer (some ⟨b,0,none⟩)] w fun e w'=>e = .returned (.string ⟨l.toArray⟩)∧Below B w w'∧∀ (k:Nat) (o:Obj),w.heap[k]?=some o→o.isCells=false→w'.heap[k]?=some o:=by
 obtain ⟨p,-,hbk⟩:=h.hp
 have hown:=h.own
 have hl0:l.length ≠ 0:=by simpa using h0
 rw [Lib.byteCells_length] at hown
 obtain ⟨g,cap,cur,rfl,hbg,hg,hnc,hcm,hcs,htake⟩:∃ g cap cur,v = .slice (some ⟨g,0,none⟩) l.length cap∧B≤g∧w.heap[g]?=some (.cells cur 5 (0,0))∧l.length≤cap∧cap≤maxLen∧cur.size=cap * 1∧cur.toList.take (l.length * 1)=Lib.byteCells l:=by
  rcases hown.2 with ⟨_,hz⟩ | ⟨g,cap,cur,hv,r⟩
  ·exact absurd hz hl0
  ·exact ⟨g,cap,cur,hv,r⟩
 have c1:w.drew.cell? ⟨b,1,none⟩=some (.slice (some ⟨g,0,none⟩) l.length cap):=by
  have:w.drew.heap[b]?=some (.cells #[p,.slice (some ⟨g,0,none⟩) l.length cap] 64 (0,0)):=hbk
  rw [Lib.cell_of_heap this];rfl
 have hSD:(Builtin.unsafeSliceData_ #[62] 112 #[.slice (some ⟨g,0,none⟩) l.length cap]).run Tryz.prog w.drew = .ok (.pointer (some ⟨g,0,none⟩)) w.drew:=
  Lib.run_unsafeSliceData_row _ _ _ _ _ _ (by omega)
 have hUS:(Builtin.unsafeString_ #[112,3] 9 #[.pointer (some ⟨g,0,none⟩),.int .i64 l.length]).run Tryz.prog w.drew = .ok (.string ⟨l.toArray⟩) (w.drew.freeze ⟨g,0,none⟩ l.length):=by
  refine Lib.run_unsafeString_row w.drew 112 3 9 5 Tryz.underlying112 byte_cells1 g cur.size (by have hg':w.drew.heap[g]?=some (.cells cur 5 (0,0)):=hg;simp [World.shape?,hg']) l h0 (by omega) (by unfold maxLen at hcm;omega) ?_
  intro j x hx
  have:=hown.cells (g:=g) rfl j (.int .u8 x.toNat) (by simp [Lib.byteCells,hx])
  exact this
 have HF:Hid (Below B w (w.drew.freeze ⟨g,0,none⟩ l.length)∧∀ (k:Nat) (o:Obj),w.heap[k]?=some o→o.isCells=false→(w.drew.freeze ⟨g,0,none⟩ l.length).heap[k]?=some o):=by
  refine ⟨Lib.below_freeze (Below.drew (Below.refl B w)) (p:=⟨g,0,none⟩) hbg _,fun k o hk hc=>?_⟩
  have hkg:k ≠ g:=fun e=>by
   subst e
   rw [hg] at hk
   cases hk
   cases hc
  have e1:(w.drew.freeze ⟨g,0,none⟩ l.length).heap[k]?=w.heap[k]?:=by
   unfold World.freeze
   rw [if_neg hl0]
   show (w.heap.modify g _)[k]?=w.heap[k]?
   rw [Array.getElem?_modify,if_neg (fun e=>hkg e.symm)]
  rw [e1];exact hk
 clear hcs htake hnc hcm hown hg hbk
 go_enter Tryz.func30,Tryz.ntmps30
 go_wp2
 go_region
 all_goals (go_wp2;go_ret;exact ⟨rfl,HF.out⟩)
end Go.Proofs.YtbleojodidbhiaaGreatDoor
namespace Go.Proofs.YtbleojodidbhiaaGreatDoor
open Go.RowKit
section
variable {P:Program} {ops:Array Oper} {md:Region.Mode}
theorem wpIn_of_safeR {o:Oper} {a:Act} {w:World} {K K':Act→World→Prop} {Q':Exit→Act→World→Prop} (lp n:Nat) (hnd:∀ c,o.op ≠ .defer c) (h:∀ a w,K a w→K' a w) (hh:o.wp P a w K QF):o.wpIn (Fence.wide.inRound lp) n P a w K' Q':=by
 refine ⟨fun _ _=>trivial,?_⟩
 rw [show (Fence.wide.inRound lp).round=some lp from rfl,Oper.semAt_some lp _ _ hnd]
 unfold Oper.wp at hh
 generalize (execOp a.eval o).run P w=r at *
 cases r with
 | ok x w'=>
  cases x <;> simp only [Oper.upon,Oper.uponIn] at hh ⊢ <;>
   first
    | exact h _ _ hh
    | exact ⟨fun hd=>(by cases hd),CallsIn.inRound lp (callsIn_wide.2 (Calls.mono hh (fun e w'' he=>by
      cases e
      ·exact h _ _ he
      ·exact False.elim he
      ·obtain ⟨_,_,hf⟩:=he;exact False.elim hf)))⟩
    | exact ⟨fun hd=>(by cases hd),fun c cs _=>(by
      obtain ⟨v,w2,hr,hs⟩:=hh c cs
      exact ⟨v,w2,h _ _ hr,stepsIn_wide.2 hs⟩)⟩
    | exact False.elim hh
 | halt x w'=>
  cases x <;> simp only [Oper.upon,Oper.uponIn] at hh ⊢
  exact False.elim hh
def noDefer (l:List Oper):Bool:=l.all fun o=>match o.op with | .defer _=>false | _=>true
theorem noDefer_spec {l:List Oper} (h:noDefer l=true) {i:Nat} {o:Oper} (ho:l.toArray[i]?=some o):∀ c,o.op ≠ .defer c:=by
 intro c e
 have hm:o ∈ l:=by
  rw [List.getElem?_toArray] at ho
  exact List.mem_of_getElem? ho
 have:=List.all_eq_true.1 h o hm
 rw [e] at this
 cases this
theorem wpOpIn_of_eOp {l:List Oper} (lp n:Nat) (hD:noDefer l=true) {E:List Nat} {i:Nat} {a:Act} {w:World} {K K':Act→World→Prop} {Q':Exit→Act→World→Prop} (h:∀ a w,K a w→K' a w) (hh:eOp P l.toArray E i K a w):wpOpIn (Fence.wide.inRound lp) n P l.toArray Q' i K' a w:=by
 unfold eOp at hh
 unfold wpOpIn
 split
 ·rename_i ho;simp only [ho] at hh;exact h _ _ hh
 ·rename_i o ho
  simp only [ho] at hh
  split
  ·rename_i hw;simp only [hw,if_true] at hh;exact wpIn_of_safeR lp n (noDefer_spec hD ho) (fun a w hk=>h _ _ hk.2) hh
  ·rename_i hw;simp only [hw] at hh;exact ⟨fun _ _=>trivial,h _ _ hh⟩
theorem wpAnyIn_of_E {l:List Oper} (lp n:Nat) (hD:noDefer l=true) {E:List Nat} {Q:Act→World→Prop} {Q':Exit→Act→World→Prop} (hQ:∀ a w,Q a w→Q' .normal a w):∀ (fuel:Nat) (listed:Array Bool) (a:Act) (w:World),
  wpAnyE P md l.toArray E Q fuel listed a w→wpAnyIn (Fence.wide.inRound lp) n P md l.toArray Q' fuel listed a w
 | 0,_,_,_,h=>⟨h.1,hQ _ _ h.2⟩
 | fuel + 1,_,_,_,h=>⟨fun h0=>hQ _ _ (h.1 h0),fun i hi=>wpOpIn_of_eOp lp n hD (fun a' w' h'=>wpAnyIn_of_E lp n hD hQ fuel _ a' w' h') (h.2 i hi)⟩
theorem wpInR_region_turn {id:Nat} {Q:Exit→Act→World→Prop} {a:Act} {w:World} {l:List Oper} {lp n:Nat} (ord:List (St × Nat)) (hm:P.follows .mixedOrders=true)
  (hB:(noDefer l && Region.noSelect l.toArray && decide (ord.length=l.length) && turnB .any l.toArray (turns ord) ord (Array.replicate l.length false))=true)
  (h:wpTurn P l.toArray (fun a' w'=>Q .normal a' w') ord a w.drew):(Code.region id l.toArray true).wpIn (Fence.wide.inRound lp) n P Q a w:=by
 simp only [Bool.and_eq_true,decide_eq_true_eq] at hB
 obtain ⟨⟨⟨hd,hs⟩,hl⟩,hB⟩:=hB
 refine wpIn_region_any hm ?_
 have:=wpAnyIn_of_E (Q':=Q) lp n hd (fun a w h=>h) _ _ _ _ (wpAnyE_ord (md:=.any) hs ord _ a w.drew hB h)
 rw [hl] at this
 simpa using this
end
end Go.Proofs.YtbleojodidbhiaaGreatDoor
set_option linter.unusedVariables false
namespace Go.Proofs.YtbleojodidbhiaaGreatDoor
open Go.RowKit
theorem dblank_any (r:Int) (w:World):Calls Tryz.prog 41 #[.int .i32 r] w fun e w'=>e = .returned (.bool (decide (r=32)))∧w'=w:=by
 by_cases h:r=32
 ·rw [decide_eq_true h]
  subst h
  go_enter Tryz.func41,Tryz.ntmps41
  go_wp2
  go_ret
  exact ⟨rfl,rfl⟩
 ·rw [decide_eq_false h]
  have hb:(r == 32)=false:=by simpa using h
  go_enter Tryz.func41,Tryz.ntmps41
  go_wp2
  go_ret
  exact ⟨rfl,rfl⟩
theorem dfields_any (l:List UInt8) (w:World) (hl:l.length≤100000) :
  Calls Tryz.prog 25 #[.string (ba l),.func (.func 41) #[] #[]] w fun e w'=>∃ v,e = .returned v∧WsAt w' v (fieldsL l)∧Below w.heap.size w w':=by
 have hF:=Tryz.strings_FieldsFunc_runes 41 #[] (enters_of Tryz.func41 (by kernel_rfl) rfl) (· == 32) (ba l) w (by rw [ba_size];omega) (fun W x _ _=>by
  refine (dblank_any (x:Nat) W).mono ?_
  rintro e w' ⟨rfl,rfl⟩
  refine ⟨?_,0,rfl⟩
  by_cases h:x=32
  ·subst h;rfl
  ·show Ending.returned (Value.bool _)=Ending.returned (Value.bool (x == 32))
   rw [decide_eq_false (by omega),show (x == 32)=false by simpa using h])
 rw [show Lib.goFieldsP (· == 32) (ba l)=(fieldsL l).map ba from fields_is l] at hF
 refine hF.mono ?_
 rintro e w' ⟨A,rfl,hA,hown,hb⟩
 refine ⟨_,rfl,?_,hb⟩
 rw [List.length_map] at hown ⊢
 have hc:=hown.cells (g:=A) rfl
 have hlt:=(hown.lt A rfl).2
 refine ⟨some ⟨A,0,none⟩,(fieldsL l).length,rfl,Nat.le_refl _,Or.inr ⟨A,0,rfl,hlt,fun j x hj=>?_⟩⟩
 have:=hc j (.string (ba x)) (by rw [List.map_map,List.getElem?_map,hj];rfl)
 rwa [Addr.add_lit] at this
theorem cells_of_cell {w:World} {a:Addr} {v:Value} (h:w.cell? a=some v):∃ o:Obj,w.heap[a.block]?=some o∧o.isCells=true:=by
 unfold World.cell? at h
 split at h
 ·rename_i c t x e
  exact ⟨_,e,rfl⟩
 ·cases h
theorem cells_of_own {w:World} {B:Nat} {T:TypeId} {m n:Nat} {v:Value} {xs:List Value} (h:w.ownsRow B T m v n xs) {k:Nat} (hk:v.ownBlock=some k):∃ o:Obj,w.heap[k]?=some o∧o.isCells=true:=by
 rcases h.2 with ⟨rfl,_⟩ | ⟨g,cap,cur,rfl,_,hg,_⟩
 ·cases hk
 ·simp [Value.ownBlock] at hk
  subst hk
  exact ⟨_,hg,rfl⟩
theorem HsAt.cells {w:World} {B ph:Nat} {sv cv:Value} {h:Hs} (a:HsAt w B ph sv cv h) {k:Nat} (hk:Mine ph sv cv k):∃ o:Obj,w.heap[k]?=some o∧o.isCells=true:=by
 rcases hk with rfl | hk | hk
 ·exact cells_of_cell a.cj
 ·exact cells_of_own a.bk.own hk
 ·exact cells_of_own a.pr.own hk
structure SesJ (w:World) (m:Nat) (pre:List (List UInt8)) (W:World) (ph:Nat) (sv cv bv:Value):Prop where
 dk:DkAt W w.heap.size (w.heap.size + 1) ph sv cv (sessH hs0 pre)
 de:DeedsAt W (w.heap.size + 1) (w.heap.size + 1 + 1)
 dv:W.cell? ⟨m,0,none⟩=some (.map (some (w.heap.size + 1 + 1)))
 bl:BlAt W w.heap.size (m + 1) bv (Lib.byteCells (sessL hs0 pre))
 lo:Below w.heap.size w W
 hm:∀ k,Mine ph sv cv k→k=w.heap.size∨m + 5≤k
 hv:∀ k,bv.ownBlock=some k→m + 5≤k∧¬ Mine ph sv cv k
 sz:m + 5≤W.heap.size
 mm:w.heap.size + 3≤m
def SesI (w:World) (m:Nat) (pre:List (List UInt8)) (W:World):Prop:=∃ ph sv cv bv,SesJ w m pre W ph sv cv bv
theorem SesJ.same {w:World} {m:Nat} {pre:List (List UInt8)} {W W':World} {ph:Nat} {sv cv bv:Value} (h:SesJ w m pre W ph sv cv bv) (ho:W'.os=W.os) (ht:W'.tape=W.tape) (hp:W'.output=W.output) (hs:W.heap.size≤W'.heap.size)
  (hk:∀ k,k < W.heap.size→(k < m + 5∧k ≠ m + 2)∨(∃ o:Obj,W.heap[k]?=some o∧o.isCells=true∧m + 5≤k)→W'.heap[k]?=W.heap[k]?):SesJ w m pre W' ph sv cv bv:=by
 have sz:=h.sz
 have mm:=h.mm
 have low:∀ k,k < m + 5→k ≠ m + 2→W'.heap[k]?=W.heap[k]?:=fun k h1 h2=>hk k (by omega) (Or.inl ⟨h1,h2⟩)
 have mine:∀ k,Mine ph sv cv k→W'.heap[k]?=W.heap[k]?:=fun k hm=>by
  obtain ⟨o,e,hc⟩:=h.dk.hs.cells hm
  rcases h.hm k hm with x | x
  ·exact low k (by omega) (by omega)
  ·exact hk k (h.dk.hs.mine hm).2 (Or.inr ⟨o,e,hc,x⟩)
 have ecb:=low (w.heap.size + 1) (by omega) (by omega)
 refine ⟨⟨h.dk.hs.same mine,(World.cell?_of_block (a:=⟨w.heap.size + 1,0,none⟩) ecb).trans h.dk.cc,(World.frozen?_of_block (a:=⟨w.heap.size + 1,0,none⟩) ecb).trans h.dk.cf,h.dk.ge,h.dk.ne⟩,
  (low (w.heap.size + 1 + 1) (by omega) (by omega)).trans h.de,(World.cell?_of_block (a:=⟨m,0,none⟩) (low m (by omega) (by omega))).trans h.dv,
  h.bl.same (low (m + 1) (by omega) (by omega)) (fun k hb=>?_),h.lo.trans ⟨ho,ht,hp,hs,fun k hk=>low k (by omega) (by omega)⟩,h.hm,h.hv,Nat.le_trans h.sz hs,h.mm⟩
 obtain ⟨o,e,hc⟩:=cells_of_own h.bl.own hb
 exact hk k (h.bl.own.lt k hb).2 (Or.inr ⟨o,e,hc,(h.hv k hb).1⟩)
theorem sesI_abd (w:World) (m:Nat):AbdK (m + 2) (m + 5) (SesI w m):=by
 rintro s W W' row ⟨ph,sv,cv,bv,h⟩ hg hr
 refine ⟨ph,sv,cv,bv,h.same hg.os hg.tape hg.output hg.size fun k hk hc=>hg.block k hk fun e=>?_⟩
 rcases hr k e.symm with x | ⟨hb,o,ho,hcc⟩
 ·rcases hc with ⟨_,h2⟩ | ⟨_,_,_,h3⟩
  ·exact h2 x
  ·omega
 ·rcases hc with ⟨h1,_⟩ | ⟨o',ho',hcc',_⟩
  ·omega
  ·rw [ho] at ho'
   cases ho'
   rw [hcc] at hcc'
   cases hcc'
theorem sesX_abd (sb B:Nat):AbdK (β:=List (List UInt8)) sb B (fun _ _=>False):=fun _ _ _ _ h _ _=>h
theorem SesJ.step {w:World} {m:Nat} {pre:List (List UInt8)} {W W1 W2 W3:World} {ph p2:Nat} {sv cv bv s2 c2 v2:Value} {l:List UInt8} (h:SesJ w m pre W ph sv cv bv) (hb:Below W.heap.size W W1)
  (d:DkAt W2 w.heap.size (w.heap.size + 1) p2 s2 c2 (lineA (sessH hs0 pre) l).2) (t:DTurn W1 W2 (w.heap.size + 1) ph sv cv p2 s2 c2)
  (b:BlAt W3 w.heap.size (m + 1) v2 (Lib.byteCells (sessL hs0 pre) ++ Lib.strCells (ba ((lineA (sessH hs0 pre) l).1 ++ [10])))) (u:BTurn W2 W3 (m + 1) bv v2) :
  SesJ w m (pre ++ [l]) W3 p2 s2 c2 v2∧KeepsFrom (m + 5) W W3∧∀ k,keptS (m + 2) (m + 3) (m + 4) k→W3.heap[k]?=W.heap[k]?:=by
 have sz:=h.sz
 have mm:=h.mm
 have z1:=hb.size
 have z2:=t.size
 have z3:=u.size
 have blk:∀ k,k < W.heap.size→k ≠ w.heap.size + 1→¬ Mine ph sv cv k→k ≠ m + 1→bv.ownBlock ≠ some k→W3.heap[k]?=W.heap[k]?:=fun k hk h1 h2 h3 h4=>
  (u.block k (by omega) h3 h4).trans ((t.block k (by omega) h1 h2).trans (hb.block k hk))
 have nm:∀ k,k ≠ w.heap.size→k < m + 5→¬ Mine ph sv cv k:=fun k h1 h2 hm=>by
  rcases h.hm k hm with x | x <;> omega
 have nv:∀ k,k < m + 5→bv.ownBlock ≠ some k:=fun k h1 e=>by have:=(h.hv k e).1;omega
 have hm2:∀ k,Mine p2 s2 c2 k→k=w.heap.size∨m + 5≤k:=fun k hk=>by
  rcases t.fresh k hk with x | x
  ·exact h.hm k x
  ·right;omega
 have nm2:∀ k,Mine p2 s2 c2 k→k ≠ m + 1∧bv.ownBlock ≠ some k:=fun k hk=>by
  refine ⟨fun e=>?_,fun e=>?_⟩
  ·rcases hm2 k hk with x | x <;> omega
  ·rcases t.fresh k hk with x | x
   ·exact (h.hv k e).2 x
   ·have h1:=(h.bl.own.lt k e).2
    omega
 have eq2:∀ k,Mine p2 s2 c2 k→W3.heap[k]?=W2.heap[k]?:=fun k hk=>u.block k (d.hs.mine hk).2 (nm2 k hk).1 (nm2 k hk).2
 have ecb:W3.heap[w.heap.size + 1]?=W2.heap[w.heap.size + 1]?:=u.block _ (by omega) (by omega) (nv _ (by omega))
 have esH:sessH hs0 (pre ++ [l])=(lineA (sessH hs0 pre) l).2:=by rw [sessH_app];rfl
 have esL:Lib.byteCells (sessL hs0 (pre ++ [l]))=Lib.byteCells (sessL hs0 pre) ++ Lib.strCells (ba ((lineA (sessH hs0 pre) l).1 ++ [10])):=by
  rw [sess_app,Lib.strCells,ba_data]
  simp [Lib.byteCells,sessL]
 refine ⟨⟨?_,?_,?_,?_,?_,hm2,?_,by omega,mm⟩,⟨by omega,fun k o hB hk hc=>?_⟩,fun k hk=>?_⟩
 ·rw [esH]
  exact ⟨d.hs.same eq2,(World.cell?_of_block (a:=⟨w.heap.size + 1,0,none⟩) ecb).trans d.cc,(World.frozen?_of_block (a:=⟨w.heap.size + 1,0,none⟩) ecb).trans d.cf,d.ge,d.ne⟩
 ·exact (blk (w.heap.size + 1 + 1) (by omega) (by omega) (nm _ (by omega) (by omega)) (by omega) (nv _ (by omega))).trans h.de
 ·exact (World.cell?_of_block (a:=⟨m,0,none⟩) (blk m (by omega) (by omega) (nm _ (by omega) (by omega)) (by omega) (nv _ (by omega)))).trans h.dv
 ·rw [esL];exact b
 ·refine h.lo.trans ⟨u.os.trans (t.os.trans hb.os),u.tape.trans (t.tape.trans hb.tape),u.output.trans (t.output.trans hb.output),by omega,fun k hk=>?_⟩
  exact blk k (by omega) (by omega) (nm _ (by omega) (by omega)) (by omega) (nv _ (by omega))
 ·intro k hk
  rcases u.fresh k hk with x | x
  ·refine ⟨(h.hv k x).1,fun hm=>?_⟩
   exact (nm2 k hm).2 x
  ·exact ⟨by omega,fun hm=>by have:=(d.hs.mine hm).2;omega⟩
 ·have hkl:=(Array.getElem?_eq_some_iff.1 hk).1
  rw [blk k hkl (by omega) (fun hm=>?_) (by omega) (fun e=>?_)]
  ·exact hk
  ·obtain ⟨o',e',hc'⟩:=h.dk.hs.cells hm
   rw [hk] at e';cases e';rw [hc] at hc';cases hc'
  ·obtain ⟨o',e',hc'⟩:=cells_of_own h.bl.own e
   rw [hk] at e';cases e';rw [hc] at hc';cases hc'
 ·rcases hk with rfl | rfl | rfl
  ·exact blk _ (by omega) (by omega) (nm _ (by omega) (by omega)) (by omega) (nv _ (by omega))
  ·exact blk _ (by omega) (by omega) (nm _ (by omega) (by omega)) (by omega) (nv _ (by omega))
  ·exact blk _ (by omega) (by omega) (nm _ (by omega) (by omega)) (by omega) (nv _ (by omega))
end Go.Proofs.YtbleojodidbhiaaGreatDoor
set_option linter.unusedVariables false
namespace Go.Proofs.YtbleojodidbhiaaGreatDoor
open Go.RowKit
theorem keysOf_or (p:ByteArray→Prop):keysOf p=[]∨Keys p (keysOf p):=by
 by_cases h:∃ ks,Keys p ks
 ·obtain ⟨ks,hk⟩:=h
  rw [keysOf_is hk]
  exact Or.inr hk
 ·left
  unfold keysOf
  rw [dif_neg h]
section
variable {h:Hs}
theorem at_len (ho:HsOk h) (n t:Int):(atT h n t).length≤5000000:=by
 have hM:∀ x,StkOK 1000 (stUp h.bk n t x):=fun x=>stUp_ok h.bk n t (by have:=ho.inv.full;omega) x
 have hQ:∀ x,I64 (sumQ (stUp h.bk n t x).ys):=fun x=>by have:=st_bd (hM x);constructor <;> omega
 have hV:∀ x,I64 (sumV (stUp h.bk n t x).ys):=fun x=>by have:=st_bd (hM x);constructor <;> omega
 unfold atT
 rw [List.length_append,show (dAt:List UInt8).length=2 from rfl]
 rcases keysOf_or (fun x=>(stUp h.bk n t x).ys ≠ []) with e | hk
 ·rw [e];simp
 ·generalize keysOf (fun x=>(stUp h.bk n t x).ys ≠ [])=ks at hk ⊢
  have hkl:ks.length≤1000:=by
   have h1:=keys_len hk
   have h2:=evUp_len h.bk n t
   have:=ho.inv.full
   omega
  have h1:=flatB_len (fun x=>amountT x (sumQ (stUp h.bk n t x).ys) (sumV (stUp h.bk n t x).ys)) 1100 ks (fun x hx=>amount_len _ _ _ (by
   obtain ⟨e,he,rfl⟩:=some_item ((hk.mem x).1 hx)
   have h1:=(ordd_rt _ e he).1.1.2
   rw [eba_len] at h1
   omega) (hQ x) (hV x))
  omega
theorem change_len (ho:HsOk h) (n a b:Int):(changeT h n a b).length≤5000000:=by
 have hM:∀ t x,StkOK 1000 (stUp h.bk n t x):=fun t x=>stUp_ok h.bk n t (by have:=ho.inv.full;omega) x
 have hQ:∀ x,I64 (dfQ (stUp h.bk n b) (stUp h.bk n a) x):=fun x=>by
  have h1:=st_bd (hM a x)
  have h2:=st_bd (hM b x)
  unfold dfQ
  constructor <;> omega
 have hV:∀ x,I64 (dfV (stUp h.bk n b) (stUp h.bk n a) x):=fun x=>by
  have h1:=st_bd (hM a x)
  have h2:=st_bd (hM b x)
  unfold dfV
  constructor <;> omega
 unfold changeT
 rw [List.length_append,show (dChange:List UInt8).length=6 from rfl]
 rcases keysOf_or (fun z=>dfQ (stUp h.bk n b) (stUp h.bk n a) z ≠ 0∨dfV (stUp h.bk n b) (stUp h.bk n a) z ≠ 0) with e | hk
 ·rw [e];simp
 ·generalize keysOf (fun z=>dfQ (stUp h.bk n b) (stUp h.bk n a) z ≠ 0∨dfV (stUp h.bk n b) (stUp h.bk n a) z ≠ 0)=ks at hk ⊢
  have hkl:ks.length≤1000:=by
   have h1:=df_len hk
   have h2:=evUp_len h.bk n a
   have h3:=evUp_len h.bk n b
   have:=ho.inv.full
   omega
  have h1:=flatB_len (fun z=>amountT z (dfQ (stUp h.bk n b) (stUp h.bk n a) z) (dfV (stUp h.bk n b) (stUp h.bk n a) z)) 1100 ks (fun x hx=>amount_len _ _ _ (by
   obtain ⟨e,he,rfl⟩:=df_item ((hk.mem x).1 hx)
   have h0:Rt e:=by
    rcases List.mem_append.1 he with he | he
    ·exact ordd_rt _ e he
    ·exact ordd_rt _ e he
   have h1:=h0.1.1.2
   rw [eba_len] at h1
   omega) (hQ x) (hV x))
  omega
theorem events_len (ho:HsOk h) (hn:h.ls.length≤10000) (n:Int):(eventsT h n).length≤5000000:=by
 unfold eventsT
 rw [List.length_append,show (dEvents:List UInt8).length=6 from rfl]
 have hkl:(srt (asOf h.bk (tOf h.bk n))).length≤1000:=by
  rw [srt_len]
  unfold asOf
  rw [List.length_map]
  have h1:=List.length_filter_le (isAt (tOf h.bk n)) h.bk.vs
  have:=ho.inv.full
  omega
 have h1:=flatB_len eventT 200 (srt (asOf h.bk (tOf h.bk n))) (fun e he=>by
  have h0:=as_allD ho.inv _ e he
  have hid:I64 e.id:=by
   obtain ⟨v,hv,rfl⟩:=List.mem_map.1 ((srt_perm _).mem_iff.1 he)
   have h1:=ho.inv.id v (List.mem_filter.1 hv).1
   have h2:=ho.inv.gn
   have h3:=ho.n
   exact ⟨by omega,by omega⟩
  have e1:=Lib.itoa_length_le e.id hid.1 hid.2
  have e2:=ET_len h0.1
  simp only [eventT,List.length_cons,List.length_append]
  omega)
 omega
theorem history_len (ho:HsOk h) (hn:h.ls.length≤10000) (n:Int):(historyT h n).length≤5000000:=by
 unfold historyT
 rw [List.length_append,show (dHistory:List UInt8).length=7 from rfl]
 have hkl:(h.bk.vs.filter (isH n)).length≤1000:=by
  have h1:=List.length_filter_le (isH n) h.bk.vs
  have:=ho.inv.full
  omega
 have h1:=flatB_len turnsT 100 (h.bk.vs.filter (isH n)) (fun v hv=>by
  have hm:=(List.mem_filter.1 hv).1
  have h1:=ho.inv.fr v hm
  have h2:=ho.inv.to v hm
  have h3:=ho.n
  have e1:=Lib.itoa_length_le v.fr (by omega) (by omega)
  have e2:=Lib.itoa_length_le v.to (by rcases h2 with h2 | h2 <;> omega) (by rcases h2 with h2 | h2 <;> omega)
  simp only [turnsT,List.length_cons,List.length_append]
  omega)
 omega
theorem moves_len (ho:HsOk h) (hn:h.ls.length≤10000) (x:ByteArray):(movesT h x).length≤5000000:=by
 unfold movesT
 rw [List.length_append,show (dMoves:List UInt8).length=5 from rfl]
 have hER:∀ e ∈ evIt h.bk x (-1),Rt e∧I64 e.id:=fun e he=>by
  have h0:=(List.mem_filter.1 he).1
  have h1:=as_allD ho.inv _ e h0
  refine ⟨h1.1,?_⟩
  obtain ⟨v,hv,rfl⟩:=List.mem_map.1 ((srt_perm _).mem_iff.1 h0)
  have h1:=ho.inv.id v (List.mem_filter.1 hv).1
  have h2:=ho.inv.gn
  have h3:=ho.n
  exact ⟨by omega,by omega⟩
 have hEl:(evIt h.bk x (-1)).length≤120:=by
  have h1:=List.length_filter_le (fun e:Ev=>decide (e.item=x)) (srt (asOf h.bk (tOf h.bk (-1))))
  rw [srt_len] at h1
  unfold asOf at h1
  rw [List.length_map] at h1
  have h2:=List.length_filter_le (isAt (tOf h.bk (-1))) h.bk.vs
  have:=ho.inv.full
  unfold evIt asOf
  omega
 generalize evIt h.bk x (-1)=E at hER hEl ⊢
 have h1:=flatB_len (movT E x) 400 (List.range E.length) (fun j hj=>by
  have hj:=List.mem_range.1 hj
  have hle:(E.take (j + 1)).length≤1000:=by rw [List.length_take];omega
  have hol:=ordd_len (E.take (j + 1))
  have hlen:(goL stk00 (ordd (E.take (j + 1)))).length=j + 1:=by
   rw [goL_len,ordd_stl (fun e he=>(hER e (List.mem_of_mem_take he)).1),stl_len,List.length_take]
   omega
  have hmem:(goL stk00 (ordd (E.take (j + 1)))).getD j linD0 ∈ goL stk00 (ordd (E.take (j + 1))):=by
   rw [List.getD_eq_getElem?_getD,List.getElem?_eq_getElem (by omega)]
   exact List.getElem_mem _
  have hb:=lines_bd (ordd (E.take (j + 1))) 0 stk00 (fun y=>stk0_ok 0) (ordd_rt _) (by omega) _ hmem
  have hs:=(goS_ok (ordd (E.take (j + 1))) 0 stk00 (fun y=>stk0_ok 0) (ordd_rt _)).1 x
  have hs2:=st_bd (hs.more (j:=1000) (by omega))
  obtain ⟨⟨e,he,hid⟩,h1,h2,h3⟩:=hb
  have hem:e ∈ E:=by
   have:=(stl_perm ((E.take (j + 1)).filter rtB)).mem_iff.1 he
   exact List.mem_of_mem_take (List.mem_filter.1 this).1
  unfold movT
  rw [← List.getD_eq_getElem?_getD]
  exact move_len _ _ _ (by have:=(hER e hem).2;rw [← hid] at this;exact this) h1 h2 h3 ⟨by omega,by omega⟩ ⟨by omega,by omega⟩)
 rw [List.length_range] at h1
 omega
theorem open_len:(openT h).length≤5000000:=by
 unfold openT
 rw [List.length_append,show (dOpen:List UInt8).length=4 from rfl]
 have:=fig_len (opF_ok h)
 omega
theorem closed_len (ho:HsOk h) (hx:HsX h):(closedT h).length≤5000000:=by
 unfold closedT
 rw [List.length_append,show (dClosed:List UInt8).length=6 from rfl]
 have h1:=flatB_len closingT 400 h.cs (fun c hc=>by
  have h1:=hx c hc
  have e1:=Lib.itoa_length_le c.month h1.2.1.1 h1.2.1.2
  have e2:=Lib.itoa_length_le c.turn h1.2.2.1 h1.2.2.2
  have e3:=fig_len h1.1
  simp only [closingT,List.length_cons,List.length_append]
  omega)
 have:=ho.cs
 omega
theorem months_len (ho:HsOk h) (hx:HsX h):(monthsT h).length≤5000000:=by
 unfold monthsT
 rw [List.length_append,show (dMonths:List UInt8).length=6 from rfl,List.length_cons]
 have h1:=rep_len (printL (postsL h))
 have h2:=printL_len (postsL h) (posts_ok hx)
 have h3:=posts_len ho
 have e:Lib.replace (printL (postsL h)) [10] [124] (-1)=Lib.replaceAll (printL (postsL h)) [10] [124]:=rfl
 rw [e]
 omega
theorem trial_len (ho:HsOk h) (hx:HsX h):(trialT h).length≤5000000:=by
 unfold trialT
 rw [List.length_append,show (dTrial:List UInt8).length=5 from rfl]
 have h3:=posts_len ho
 have hPO:=posts_ok hx
 generalize postsL h=ps at h3 hPO ⊢
 rcases keysOf_or (fun x=>x ∈ accs ps) with e | hk
 ·rw [e];simp
 ·generalize keysOf (fun x=>x ∈ accs ps)=ks at hk ⊢
  have hkl:ks.length≤1000:=by
   have h1:=nodup_len ks (accs ps) hk.nodup (fun x hx=>(hk.mem x).1 hx)
   rw [accs_len] at h1
   omega
  have h1:=flatB_len (balT ps) 1100 ks (fun x hx=>by
   have h1:=accs_sz hPO ((hk.mem x).1 hx)
   have hv:I64 (bal x 0 ps):=by rw [bal_zero];exact i64_wrap _
   have h2:=amt_len (bal x 0 ps) hv.1 hv.2
   have h3:x.data.toList.length=x.size:=Array.length_toList
   simp only [balT,amT,List.length_cons,List.length_append,byt_length]
   omega)
  omega
theorem turn_len (ho:HsOk h) (hn:h.ls.length≤10000):(turnT h).length≤5000000:=by
 unfold turnT
 have h1:=ho.n
 have h2:=ho.inv.n0
 have e1:=Lib.itoa_length_le h.bk.n (by omega) (by omega)
 simp only [dTurn,List.length_append,List.length_cons,List.length_nil]
 omega
theorem day_len {d:List UInt8} {n:Int} (hd:dparsed d=some n):(dayT n).length≤5000000:=by
 unfold dayT
 have hb:=dparsed_some hd
 have hk:=dK_le hb.2.1 hb.2.2.1
 have e1:=Lib.itoa_length_le n (by omega) (by omega)
 have e2:=Lib.itoa_length_le (dK n:Int) (by omega) (by omega)
 simp only [dDay,List.length_append,List.length_cons,List.length_nil]
 omega
theorem sum_len (l:List UInt8):(sumT l).length≤5000000:=by
 unfold sumT
 have hb:=sumL_lt l
 have e1:=Lib.itoa_length_le (sumL l:Nat) (by omega) (by omega)
 simp only [dSum,List.length_append,List.length_cons,List.length_nil]
 omega
def okD (x:Dd):Prop:=x.told.length≤5000000
theorem okD_err (b:Bk) (cs:List Cl) (c:Int):okD (ddE b cs c):=Nat.zero_le _
theorem lateB_len (cs:List Cl) (e:Ev):(lateT cs e).length≤10:=by
 unfold lateT
 split
 ·decide
 ·exact Nat.zero_le _
theorem deed_len (ho:HsOk h) (hn:h.ls.length≤10000) (w r:List UInt8):okD (deedD h.bk h.cs w r):=by
 have h1:=ho.n
 have h2:=ho.inv.gn
 have h3:=ho.inv.g0
 unfold deedD
 split
 ·unfold postD
  split
  ·exact okD_err _ _ _
  ·rename_i e _
   split
   ·have e1:=Lib.itoa_length_le (h.bk.g + 1) (by omega) (by omega)
    have e2:=lateB_len h.cs e
    show (tPosted ++ Lib.itoa (h.bk.g + 1) ++ lateT h.cs e).length≤_
    rw [List.length_append,List.length_append,show tPosted.length=7 from rfl]
    omega
   ·exact okD_err _ _ _
 split
 ·unfold corrD
  split
  ·exact okD_err _ _ _
  ·split
   ·exact okD_err _ _ _
   ·rename_i e _
    split
    ·exact okD_err _ _ _
    ·split
     ·have e2:=lateB_len h.cs e
      show (tCorrected ++ lateT h.cs e).length≤_
      rw [List.length_append,show tCorrected.length=9 from rfl]
      omega
     ·exact okD_err _ _ _
 split
 ·unfold voidD
  split
  ·exact okD_err _ _ _
  ·split
   ·exact okD_err _ _ _
   ·exact (by decide:tVoided.length≤5000000)
 split
 ·unfold closeD
  split
  ·exact okD_err _ _ _
  ·rename_i n _
   split
   ·exact okD_err _ _ _
   ·split
    ·exact okD_err _ _ _
    ·have hp:=postL_len (clF h.bk h.cs (dK n))
     have e1:=Lib.itoa_length_le ((postL (clF h.bk h.cs (dK n))).length:Nat) (by omega) (by omega)
     show (tClosed ++ Lib.itoa _).length≤_
     rw [List.length_append,show tClosed.length=7 from rfl]
     omega
 ·exact okD_err _ _ _
theorem told_len (ho:HsOk h) (hn:h.ls.length≤10000) (l:List UInt8):(doH h l).told.length≤5000000:=by
 unfold doH
 split
 ·exact Nat.zero_le _
 split
 ·exact deed_len ho hn _ _
 ·exact Nat.zero_le _
end
def okT (x:An):Prop:=x.told.length≤5000000
theorem okT_err (h:Hs) (c:Int):okT (anE h c):=Nat.zero_le _
theorem t_at {h:Hs} (ho:DkOk h) (ws:List (List UInt8)):okT (atA h ws):=by
 unfold atA
 repeat' split
 all_goals first
  | exact okT_err _ _
  | exact at_len ho.ok _ _
theorem t_change {h:Hs} (ho:DkOk h) (ws:List (List UInt8)):okT (changeA h ws):=by
 unfold changeA
 repeat' split
 all_goals first
  | exact okT_err _ _
  | exact change_len ho.ok _ _ _
theorem t_closed {h:Hs} (ho:DkOk h) (ws:List (List UInt8)):okT (closedA h ws):=by
 unfold closedA
 repeat' split
 all_goals first
  | exact okT_err _ _
  | exact closed_len ho.ok ho.x
theorem t_day {h:Hs} (ho:DkOk h) (ws:List (List UInt8)):okT (dayA h ws):=by
 unfold dayA
 repeat' split
 all_goals first
  | exact okT_err _ _
  | exact day_len (by assumption)
theorem t_events {h:Hs} (ho:DkOk h) (ws:List (List UInt8)):okT (eventsA h ws):=by
 unfold eventsA
 repeat' split
 all_goals first
  | exact okT_err _ _
  | exact events_len ho.ok ho.n _
theorem t_help {h:Hs} (ho:DkOk h) (ws:List (List UInt8)):okT (helpA h ws):=by
 unfold helpA
 repeat' split
 all_goals first
  | exact okT_err _ _
  | exact (by decide:dKnown.length≤5000000)
theorem t_history {h:Hs} (ho:DkOk h) (ws:List (List UInt8)):okT (historyA h ws):=by
 unfold historyA
 repeat' split
 all_goals first
  | exact okT_err _ _
  | exact history_len ho.ok ho.n _
theorem t_moves {h:Hs} (ho:DkOk h) (ws:List (List UInt8)):okT (movesA h ws):=by
 unfold movesA
 repeat' split
 all_goals first
  | exact okT_err _ _
  | exact moves_len ho.ok ho.n _
theorem t_months {h:Hs} (ho:DkOk h) (ws:List (List UInt8)):okT (monthsA h ws):=by
 unfold monthsA
 repeat' split
 all_goals first
  | exact okT_err _ _
  | exact months_len ho.ok ho.x
theorem t_open {h:Hs} (ho:DkOk h) (ws:List (List UInt8)):okT (openA h ws):=by
 unfold openA
 repeat' split
 all_goals first
  | exact okT_err _ _
  | exact open_len
theorem t_sum {h:Hs} (ho:DkOk h) (ws:List (List UInt8)):okT (sumA h ws):=sum_len _
theorem t_tear {h:Hs} (ho:DkOk h) (ws:List (List UInt8)):okT (tearA h ws):=by
 unfold tearA
 split
 ·split
  ·exact okT_err _ _
  ·rename_i n _
   split
   ·exact okT_err _ _
   ·have h1:=whole_le n.toNat h.ls
    have h2:=tot_take h.ls (wholeK n.toNat h.ls)
    have h3:=ho.n
    have h4:=ho.tt
    have e1:=Lib.itoa_length_le (wholeK n.toNat h.ls:Nat) (by omega) (by omega)
    have e2:=Lib.itoa_length_le (totL (h.ls.take (wholeK n.toNat h.ls)):Nat) (by omega) (by omega)
    show (dTear ++ 32 :: _).length≤_
    simp only [dTear,List.length_append,List.length_cons,List.length_nil]
    omega
 ·exact okT_err _ _
theorem t_trial {h:Hs} (ho:DkOk h) (ws:List (List UInt8)):okT (trialA h ws):=by
 unfold trialA
 repeat' split
 all_goals first
  | exact okT_err _ _
  | exact trial_len ho.ok ho.x
theorem t_turn {h:Hs} (ho:DkOk h) (ws:List (List UInt8)):okT (turnA h ws):=by
 unfold turnA
 repeat' split
 all_goals first
  | exact okT_err _ _
  | exact turn_len ho.ok ho.n
theorem desk_t {h:Hs} (ho:DkOk h) (s:List UInt8) (ws:List (List UInt8)):okT (deskA h s ws):=by
 have hd:okT (doA h s ws):=told_len ho.ok ho.n (s ++ 32 :: joinB ws)
 unfold deskA
 by_cases n0:s=dAt
 ·rw [if_pos n0];exact t_at ho ws
 rw [if_neg n0]
 by_cases n1:s=dChange
 ·rw [if_pos n1];exact t_change ho ws
 rw [if_neg n1]
 by_cases n2:s=wClose
 ·rw [if_pos n2];exact hd
 rw [if_neg n2]
 by_cases n3:s=dClosed
 ·rw [if_pos n3];exact t_closed ho ws
 rw [if_neg n3]
 by_cases n4:s=wCorr
 ·rw [if_pos n4];exact hd
 rw [if_neg n4]
 by_cases n5:s=dDay
 ·rw [if_pos n5];exact t_day ho ws
 rw [if_neg n5]
 by_cases n6:s=dEvents
 ·rw [if_pos n6];exact t_events ho ws
 rw [if_neg n6]
 by_cases n7:s=dHelp
 ·rw [if_pos n7];exact t_help ho ws
 rw [if_neg n7]
 by_cases n8:s=dHistory
 ·rw [if_pos n8];exact t_history ho ws
 rw [if_neg n8]
 by_cases n9:s=dMoves
 ·rw [if_pos n9];exact t_moves ho ws
 rw [if_neg n9]
 by_cases n10:s=dMonths
 ·rw [if_pos n10];exact t_months ho ws
 rw [if_neg n10]
 by_cases n11:s=dOpen
 ·rw [if_pos n11];exact t_open ho ws
 rw [if_neg n11]
 by_cases n12:s=wPost
 ·rw [if_pos n12];exact hd
 rw [if_neg n12]
 by_cases n13:s=dSum
 ·rw [if_pos n13];exact t_sum ho ws
 rw [if_neg n13]
 by_cases n14:s=dTear
 ·rw [if_pos n14];exact t_tear ho ws
 rw [if_neg n14]
 by_cases n15:s=dTrial
 ·rw [if_pos n15];exact t_trial ho ws
 rw [if_neg n15]
 by_cases n16:s=dTurn
 ·rw [if_pos n16];exact t_turn ho ws
 rw [if_neg n16]
 by_cases n17:s=wVoid
 ·rw [if_pos n17];exact hd
 rw [if_neg n17]
 exact okT_err _ _
theorem line_len {h:Hs} (ho:DkOk h) (l:List UInt8) (hl:l.length≤100000):(lineA h l).1.length≤10000000:=by
 rw [line_ans]
 rcases hf:fieldsL l with _ | ⟨s,ws⟩
 ·exact (by decide:dOk.length≤10000000)
 ·show (if (deskA h s ws).c=0 then (deskA h s ws).told else dError ++ Lib.itoa (deskA h s ws).c).length≤_
  split
  ·have:=desk_t ho s ws
   unfold okT at this
   omega
  ·have hc:=desk_c h s ws
   have e1:=Lib.itoa_length_le (deskA h s ws).c (by omega) (by omega)
   simp only [dError,List.length_append,List.length_cons,List.length_nil]
   omega
theorem sess_len:∀ (ls:List (List UInt8)) (N:Nat) (h:Hs),DkG N h→N + wtL ls≤9900→(sessL h ls).length≤ls.length * 10000001
 | [],N,h,g,_=>Nat.zero_le _
 | l :: ls,N,h,g,hb=>by
  rw [wt_cons] at hb
  have h1:=sess_len ls (N + (l.length + 1)) (lineA h l).2 (g.line (by omega) l) (by omega)
  have h2:=line_len (g.dk (by omega)) l (by omega)
  rw [sessL,List.length_append,List.length_cons,List.length_cons]
  omega
theorem len_wt:∀ ls:List (List UInt8),ls.length≤wtL ls
 | []=>Nat.le_refl _
 | l :: ls=>by
  have:=len_wt ls
  rw [wt_cons,List.length_cons]
  omega
end Go.Proofs.YtbleojodidbhiaaGreatDoor
set_option linter.unusedVariables false
namespace Go.Proofs.YtbleojodidbhiaaGreatDoor
open Go.RowKit
attribute [local go_sem] Oper.semAt_some
noncomputable def sesT (l:List UInt8):List UInt8:=sessL hs0 (splitL (Lib.trimSuffix l [10]))
theorem trim_len (l:List UInt8):(Lib.trimSuffix l [10]).length≤l.length:=by
 unfold Lib.trimSuffix
 split
 ·rw [List.length_take];omega
 ·exact Nat.le_refl _
theorem danswer_any {w:World} {B cb ph mb:Nat} {sv cv:Value} {h:Hs} (a:DkAt w B cb ph sv cv h) (ho:DkOk h) (hg:GroundD B w) (hd:DeedsAt w cb mb) (ws:List (List UInt8)) (v:Value) (hw:WsAt w v ws) (hl:ws.length≤100000) (hj:(joinB ws).length≤100000) :
  Calls Tryz.prog 40 #[.map (some mb),v] w (AnsP w B cb ph sv cv (ansA h ws)):=by
 cases ws with
 | nil=>
  obtain ⟨ad,cap,rfl,-,-⟩:=hw
  exact danswer_nil a _ ad cap
 | cons s r=>exact danswer_some a ho hg hd s r v hw hl hj
set_option maxRecDepth 100000 in
set_option maxHeartbeats 8000000 in
theorem dsession_any (s:ByteArray) (w:World) (hg:GlobD w) (hs:s.size≤9000) :
  Calls Tryz.prog 17 #[.string s] w fun e w'=>e = .returned (.string (ba (sesT s.data.toList)))∧Below w.heap.size w w':=by
 refine (callsIn_wide (n:=6)).1 ?_
 have HG:=hidE hg
 clear hg
 obtain ⟨W1,hW1⟩:∃ W,W=(w.alloc (.cells #[.slice none 0 0,.int .i64 0,.int .i64 0,.slice none 0 0,.string ⟨#[]⟩,.int .i64 0] 36)).alloc (.cells #[.pointer (some ⟨w.heap.size,0,none⟩)] 80):=⟨_,rfl⟩
 have hz1:W1.heap.size=w.heap.size + 1 + 1:=by rw [hW1];simp
 have hD:=deeds_any (w.heap.size + 1) W1
 have HW1:=hidE hW1
 have HZ1:=hidE hz1
 have hn:¬ (20000:Int) < (s.size:Int):=by omega
 clear hW1 hz1
 refine callsIn_of_wp_marks Tryz.func17 rfl trivial ?_ rfl
 simp only [Tryz.ntmps17,List.size_toArray,List.length_cons,List.length_nil,Nat.reduceAdd,Nat.reduceSub,Array.replicate_succ,Array.replicate_zero,List.push_toArray,List.append_toArray,List.nil_append,List.cons_append]
 gi_wp2_with fail
 rw [← HW1.out]
 refine ⟨trivial,(callsIn_wide.2 hD).mono ?_⟩
 rintro e w2 ⟨rfl,hde,hb2⟩
 clear hD
 rw [HZ1.out] at hde hb2 ⊢
 obtain ⟨tr,htr⟩:∃ t:ByteArray,t=⟨(Lib.trimSuffix s.data.toList (⟨#[10]⟩:ByteArray).data.toList).toArray⟩:=⟨_,rfl⟩
 have htz:tr.size≤9000:=by
  rw [htr]
  show (Lib.trimSuffix s.data.toList [10]).toArray.size≤_
  rw [List.size_toArray]
  have h1:=trim_len s.data.toList
  have h2:s.data.toList.length=s.size:=Array.length_toList
  omega
 have HTR:Hid (sesT s.data.toList=sessL hs0 (splitL tr.data.toList)):=by rw [htr];rfl
 obtain ⟨m,hm⟩:∃ m,m=w2.heap.size:=⟨_,rfl⟩
 have hm3:w.heap.size + 3≤m:=by
  have:=(Array.getElem?_eq_some_iff.1 hde).1
  omega
 obtain ⟨W3,hW3⟩:∃ W,W=(w2.alloc (.cells #[.map (some (w.heap.size + 1 + 1))] 81)).alloc (.cells #[.pointer none,.slice none 0 0] 64):=⟨_,rfl⟩
 have hz3:W3.heap.size=m + 2:=by rw [hW3,hm];simp
 obtain ⟨W4,hW4⟩:∃ W,W=((W3.alloc (.cells #[.string tr] 9)).alloc (.cells #[.string ⟨#[10]⟩] 9)).alloc (.cells #[.int .i64 0] 3):=⟨_,rfl⟩
 have hz4:W4.heap.size=m + 5:=by rw [hW4];simp [hz3]
 have hT:=Tryz.strings_TrimSuffix s ⟨#[10]⟩ W3 (by omega)
 rw [← htr] at hT
 have hS:=splitSeq_any tr W3
 rw [← hW4,hz3] at hS
 have b23:Below m w2 W3:=by rw [hW3,hm];exact ((Below.refl _ _).alloc (Nat.le_refl _) _).alloc (by simp) _
 have b34:Below W3.heap.size W3 W4:=by rw [hW4];exact (((Below.refl _ _).alloc (Nat.le_refl _) _).alloc (by simp) _).alloc (by simp;omega) _
 have b24:Below m w2 W4:=b23.trans (b34.mono (by rw [hz3];omega))
 have bb1:Below w.heap.size w W1:=by rw [HW1.out];exact ((Below.refl _ _).alloc (Nat.le_refl _) _).alloc (by simp) _
 have bb2:Below w.heap.size w w2:=bb1.trans (hb2.mono (by omega))
 have bb4:Below w.heap.size w W4:=bb2.trans (b24.mono (by omega))
 have hs1:HsAt W1 w.heap.size w.heap.size (.slice none 0 0) (.slice none 0 0) hs0:=by
  rw [HW1.out]
  exact (house_new w _ (Nat.le_refl _)).below ((Below.refl _ _).alloc (Nat.le_refl _) _)
 have d1:DkAt W1 w.heap.size (w.heap.size + 1) w.heap.size (.slice none 0 0) (.slice none 0 0) hs0:=by
  refine ⟨hs1,?_,?_,by omega,?_⟩
  ·rw [HW1.out]
   have:=World.size_alloc w (.cells #[.slice none 0 0,.int .i64 0,.int .i64 0,.slice none 0 0,.string ⟨#[]⟩,.int .i64 0] 36)
   rw [← this]
   simp
  ·rw [HW1.out]
   have:=World.size_alloc w (.cells #[.slice none 0 0,.int .i64 0,.int .i64 0,.slice none 0 0,.string ⟨#[]⟩,.int .i64 0] 36)
   rw [← this]
   simp
  ·rintro (e | e | e)
   ·omega
   ·cases e
   ·cases e
 have HJ:Hid (SesI w m [] W4):=by
  refine ⟨w.heap.size,.slice none 0 0,.slice none 0 0,.slice none 0 0,?_,?_,?_,?_,bb4,?_,?_,by omega,hm3⟩
  ·exact (d1.below (by rw [HZ1.out];exact hb2)).below (by rw [← hm];exact b24)
  ·exact (b24.block _ (by omega)).trans hde
  ·have h1:W3.cell? ⟨m,0,none⟩=some (.map (some (w.heap.size + 1 + 1))):=by
    rw [hW3,hm]
    exact (World.cell?_alloc_past _ _ _ (by simp)).trans (by simp)
   exact (b34.cell (p:=⟨m,0,none⟩) (by show m < _;omega)).trans h1
  ·have h1:W3.heap[m + 1]?=some (.cells #[.pointer none,.slice none 0 0] 64 (0,0)):=by
    rw [hW3,hm]
    have:=World.alloc_heap_new (w2.alloc (.cells #[.map (some (w.heap.size + 1 + 1))] 81)) (.cells #[.pointer none,.slice none 0 0] 64)
    rw [World.size_alloc] at this
    exact this
   exact ⟨⟨.pointer none,Or.inl rfl,(b34.block (m + 1) (by omega)).trans h1⟩,World.ownsRow_nil _ _ _ _,by simp [Value.ownBlock],by omega⟩
  ·rintro k (e | e | e)
   ·exact Or.inl e
   ·cases e
   ·cases e
  ·intro k e
   cases e
 have hk3:=World.alloc_heap_new W3 (.cells #[.string tr] 9)
 have x5:W4.cell? ⟨m + 2,0,none⟩=some (.string tr)∧W4.frozen? ⟨m + 2,0,none⟩=false:=by
  have h:=Boxed.new W3 9 (.string tr)
  rw [hz3] at h
  have h2:=(h.alloc (.cells #[.string ⟨#[10]⟩] 9)).alloc (.cells #[.int .i64 0] 3)
  rw [← hW4] at h2
  exact ⟨h2.cell,h2.frozen⟩
 have x6:W4.cell? ⟨m + 3,0,none⟩=some (.string ⟨#[10]⟩):=by
  have h:=Boxed.new (W3.alloc (.cells #[.string tr] 9)) 9 (.string ⟨#[10]⟩)
  rw [World.size_alloc,hz3] at h
  have h2:=h.alloc (.cells #[.int .i64 0] 3)
  rw [← hW4] at h2
  exact h2.cell
 have x7:W4.cell? ⟨m + 4,0,none⟩=some (.int .i64 0):=by
  have h:=Boxed.new ((W3.alloc (.cells #[.string tr] 9)).alloc (.cells #[.string ⟨#[10]⟩] 9)) 3 (.int .i64 0)
  rw [World.size_alloc,World.size_alloc,hz3,← hW4] at h
  exact h.cell
 have HSQ:=hidE (split1_in (m + 2) (m + 3) (m + 4) tr W4 (by omega) x5.1 x5.2 x6 x7 (by omega) (by omega) (6 - 1) (by omega))
 have HM:=hidE hm
 have HW3:=hidE hW3
 have HZ4:=hidE hz4
 have HTZ:=hidE htz
 have HM3:=hidE hm3
 clear x5 x6 x7 hk3 d1 hs1 bb4 bb2 bb1 b24 b34 b23 hb2 hde htr hW4 hz4 hz3 hW3
 clear hm
 gi_wp2_with fail
 rw [← HW3.out]
 refine ⟨trivial,(callsIn_wide.2 hT).mono ?_⟩
 rintro e w3 ⟨rfl,hw3⟩
 subst w3
 clear hT
 gi_wp2_with fail
 refine ⟨trivial,(callsIn_wide.2 hS).mono ?_⟩
 rintro e w4 ⟨rfl,hw4⟩
 subst w4
 clear hS
 gi_wp2_with fail
 rw [← HM.out]
 have hmix:Tryz.prog.follows .mixedOrders=true:=by kernel_rfl
 refine wpIn_rangeK (F:=Fence.wide) rfl (by omega) (gf:=140) (lb:=#[.pointer (some ⟨m + 3,0,none⟩),.pointer (some ⟨m + 2,0,none⟩),.pointer (some ⟨m + 4,0,none⟩)]) rfl trivial (enters_of Tryz.func140 (by kernel_rfl) rfl) HSQ.out (by rw [HZ4.out];omega) (by rw [HZ4.out];rintro k (e | e | e) <;> omega)
  (SesI w m) (fun _ _=>False) (by rw [HZ4.out];exact sesI_abd w m) (sesX_abd _ _) HJ.out
  (fun x=>{ tmps:=#[.string s,undef,.string ⟨#[]⟩,.pointer (some ⟨w.heap.size + 1,0,none⟩),.pointer (some ⟨m,0,none⟩),.pointer (some ⟨m + 1,0,none⟩),encT x,.string s,.int .i64 (s.size:Nat),.bool false,undef,undef,.agg #[.slice none 0 0,.int .i64 0,.int .i64 0,.slice none 0 0,.string ⟨#[]⟩,.int .i64 0],.pointer (some ⟨w.heap.size,0,none⟩),.agg #[.pointer (some ⟨w.heap.size,0,none⟩)],.pointer (some ⟨w.heap.size + 1,0,none⟩),.pointer (some ⟨w.heap.size + 1,0,none⟩),.map (some (w.heap.size + 1 + 1)),.string s,.string tr,.func (.func 140) #[] #[.pointer (some ⟨m + 2 + 1,0,none⟩),.pointer (some ⟨m + 2,0,none⟩),.pointer (some ⟨m + 2 + 1 + 1,0,none⟩)],encT x,undef,undef,undef,undef,undef,undef,undef],defers:=[] }) ?assign ?body ?done ?stop
 case assign=>
  intro l x W K hK
  gi_wp2
  exact hK
 case body=>
  rintro l pre x W ⟨ph,sv,cv,bv,J⟩ hpx
  rw [HZ4.out]
  have hwt:wtL (pre ++ [x])≤9001:=by
   have h1:=wt_split tr.data.toList
   obtain ⟨r,hr⟩:=hpx
   rw [← hr,wt_app] at h1
   have h2:tr.data.toList.length=tr.size:=Array.length_toList
   have:=HTZ.out
   omega
  rw [wt_app,show wtL [x]=x.length + 1 from rfl] at hwt
  have hG:=dkg_sess pre 0 hs0 dkg_zero (by omega)
  have hO:DkOk (sessH hs0 pre):=hG.dk (by omega)
  have hLn:=line_len hO x (by omega)
  have hSn:=sess_len pre 0 hs0 dkg_zero (by omega)
  have hPn:=len_wt pre
  have hAns:=line_ans (sessH hs0 pre) x
  obtain ⟨R,hR⟩:∃ R,R=lineA (sessH hs0 pre) x:=⟨_,rfl⟩
  rw [← hR] at hLn hAns
  have hjl:=join_len x none
  obtain ⟨W0,hW0⟩:∃ X,X=W.drew:=⟨_,rfl⟩
  have hb0:Below W.heap.size W W0:=by rw [hW0];exact below_drew _
  have hU:=up_ne
  have hA:=anyW_ne
  have d0:W0.cell? ⟨m,0,none⟩=some (.map (some (w.heap.size + 1 + 1))):=(hb0.cell (p:=⟨m,0,none⟩) (World.block_lt_of_cell? _ _ J.dv)).trans J.dv
  have f0:=fun n:Up W0=>n.cell d0
  have hF:=dfields_any x W0 (by omega)
  have zr:(ba R.1).size≤10000000:=by rw [ba_size];exact hLn
  have HT:Hid (ba R.1 ++ ⟨#[10]⟩=ba (R.1 ++ [10])):=by
   show _=_
   apply dba_ext
   simp [ba_data]
  have HW0:=hidE hW0
  have HB0:=hidE hb0
  have HJJ:=hidE J
  have HO:=hidE hO
  have HR:=hidE hR
  have HAN:=hidE hAns
  have HSN:Hid ((sessL hs0 pre).length≤100000000000):=by show _≤_;omega
  have HJL:Hid ((joinB (fieldsL x)).length≤100000∧(fieldsL x).length≤100000):=by
   have h1:=hjl.1
   have h2:=hjl.2
   simp only [Option.getD_none,List.length_nil,Nat.add_zero,Option.toList_none] at h1 h2
   exact ⟨Nat.le_trans h1 (by omega),Nat.le_trans h2 (by omega)⟩
  clear J hwt hG hO hLn hSn hPn hAns hR hjl hW0 hb0 d0 hpx hn
  unfold encT
  gi_wp2_with fail
  refine wpInR_region_turn [(.read,0),(.pure,1),(.make,2),(.turn,3),(.pure,4),(.turn,5)] hmix (by kernel_rfl) ?_
  rw [← HW0.out]
  repeat (first | refine turn_p rfl ?_ | refine turn_q rfl ?_);go_big_quiet_step (fail);refine wpQuiet_nil ?_
  refine turn_n rfl ?_
  go_wp2_with fail
  refine hF.mono ?_
  rintro y W5 ⟨v5,rfl,hws,hb5⟩
  have hb05:=HB0.out.trans (hb5.mono HB0.out.size)
  have hD5:=HJJ.out.dk.below hb05
  have hAn:=danswer_any hD5 HO.out ⟨w,HG.out,Nat.le_refl _,HJJ.out.lo.trans (hb05.mono (by have:=HJJ.out.lo.size;omega))⟩ ((hb05.block _ (Array.getElem?_eq_some_iff.1 HJJ.out.de).1).trans HJJ.out.de) (fieldsL x) v5 hws HJL.out.2 HJL.out.1
  rw [← HAN.out] at hAn
  obtain ⟨ad5,cp5,hv5,-,-⟩:=hws
  subst hv5
  have HB5:=hidE hb05
  clear hF hD5 hb05 f0
  go_wp2_with fail
  refine ⟨rfl,hb5,?_⟩
  clear hb5
  refine turn_t rfl ?_
  go_wp2_with fail
  refine hAn.mono ?_
  rintro y W6 ⟨rfl,p2,s2,c2,d6,t6⟩
  have D6:=hidE d6
  have T6:=hidE t6
  have hbl:BlAt W6 w.heap.size (m + 1) bv (Lib.byteCells (sessL hs0 pre)):=by
   have J:=HJJ.out
   have h1:=HB5.out.size
   have h2:=J.sz
   have h3:=J.mm
   have e5:∀ k,k < W.heap.size→k ≠ w.heap.size + 1→¬ Mine ph sv cv k→W6.heap[k]?=W.heap[k]?:=fun k hk hc hn=>(t6.block k (by omega) hc hn).trans (HB5.out.block k hk)
   refine J.bl.same (e5 (m + 1) (by omega) (by omega) (fun hm=>by rcases J.hm _ hm with x | x <;> omega)) (fun k hk=>?_)
   have:=J.hv k hk
   exact e5 k (J.bl.own.lt k hk).2 (by omega) this.2
  have hWr:=bwriteD w.heap.size (m + 1) bv (Lib.byteCells (sessL hs0 pre)) (ba (R.1 ++ [10])) W6 hbl (by
   have h1:=HSN.out
   have h2:(Lib.byteCells (sessL hs0 pre)).length=(sessL hs0 pre).length:=by simp [Lib.byteCells]
   rw [h2,ba_size,List.length_append]
   rw [ba_size] at zr
   simp
   omega) (by have h1:=HB5.out.size;have h2:=t6.size;have h3:=HJJ.out.sz;have h4:=HJJ.out.mm;omega)
  clear hAn d6 t6 hbl
  go_wp2_with fail
  refine ⟨rfl,?_⟩
  repeat (first | refine turn_p rfl ?_ | refine turn_q rfl ?_);go_big_quiet_step (fail);refine wpQuiet_nil ?_
  rw [HT.out]
  refine turn_t rfl ?_
  go_wp2_with fail
  refine hWr.mono ?_
  rintro y W7 ⟨rfl,v7,bl7,t7⟩
  go_wp2_with fail
  refine ⟨rfl,?_⟩
  refine turn_nil ?_
  obtain ⟨q1,q2,q3⟩:=HJJ.out.step (l:=x) HB5.out (by rw [← HR.out];exact D6.out) T6.out (by rw [← HR.out];exact bl7) t7
  exact ⟨q2,q3,p2,s2,c2,v7,q1⟩
 case done=>
  rintro D W hD ⟨ph,sv,cv,bv,J⟩ hK
  have hne0:sessL hs0 (splitL tr.data.toList) ≠ []:=by
   have h1:=wt_split tr.data.toList
   cases hsp:splitL tr.data.toList with
   | nil=>rw [hsp] at h1;simp [wtL] at h1
   | cons l ls=>rw [sessL];simp
  have hst:=bstringD w.heap.size (m + 1) bv (sessL hs0 (splitL tr.data.toList)) W J.bl hne0
  rw [← HTR.out] at hst
  have HLO:=hidE J.lo
  have HKK:=hidE hK
  have HDD:Hid (w.heap.size≤D):=by have h1:=HZ4.out;show _≤_;omega
  clear J hne0 hK hD
  gi_wp2_with fail
  refine ⟨trivial,(callsIn_wide.2 hst).mono ?_⟩
  rintro y W8 ⟨rfl,hb8,hk8⟩
  have hK8:=hk8 D _ HKK.out rfl
  have hlo8:=HLO.out.trans hb8
  have HF:=hidE (And.intro hK8 hlo8)
  clear hst hb8 hk8 hK8 hlo8
  gi_wp2
  obtain ⟨hK8,hlo8⟩:=HF.out
  refine ⟨by simp,.inl ⟨_,_,rfl,run_takeDeferred hK8,?_⟩⟩
  refine ⟨.string (ba (sesT s.data.toList)),by simp [results,Tryz.results17,go_sem,ba],rfl,?_⟩
  have:=HDD.out
  exact hlo8.grown (grownBy_putObj' W8 D _) hlo8.size (fun k e=>by cases e;exact this)
 case stop=>
  intro D pre W _ _ h
  exact h.elim
end Go.Proofs.YtbleojodidbhiaaGreatDoor
