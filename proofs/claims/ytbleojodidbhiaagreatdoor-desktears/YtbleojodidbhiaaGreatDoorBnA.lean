/-  -/
import Derived.Test.YtbleojodidbhiaaGreatDoorRows
import Derived.WalkKit
import Derived.ProofKit
import Derived.OpenShut
import Derived.WalkSpells
import Derived.Deep.QuietTactic
import Derived.BigQuiet
import Derived.Maps.Ext
import Derived.Maps.RangeWalk
import Derived.StringKeys
namespace Go.Proofs.YtbleojodidbhiaaGreatDoor
open Go.RowKit
theorem ret_int {k:IntKind} {a b:Int} (h:a=b):Ending.returned (.int k a) = .returned (.int k b):=by rw [h]
theorem ret_bool {a:Bool} (h:a=true):Ending.returned (.bool a) = .returned (.bool true):=by rw [h]
end Go.Proofs.YtbleojodidbhiaaGreatDoor
namespace Go.Proofs.YtbleojodidbhiaaGreatDoor
structure Ev where
 id:Int
 item:ByteArray
 kind:Int
 qty:Int
 price:Int
 ofI:Int
 day:Int
 deriving Inhabited
def isLet (c:UInt8):Prop:=97≤c.toNat∧c.toNat≤122
def isDig (c:UInt8):Prop:=48≤c.toNat∧c.toNat≤57
def isName (l:List UInt8):Prop:=(1≤l.length∧l.length≤10)∧(∀ c,l.head?=some c→isLet c)∧∀ c ∈ l,isLet c∨isDig c
def rtK (k q p o:Int):Prop:=
 (k=1∧(1≤q∧q≤100000)∧(0≤p∧p≤1000000)∧o=0)∨(k=2∧q=0∧(1≤p∧p≤100000000000)∧(1≤o∧o≤9223372036854775807))
 ∨ (k=3∧(1≤q∧q≤100000)∧p=0∧o=0)∨(k=4∧(0≤q∧q≤100000)∧p=0∧o=0)
def Rt (e:Ev):Prop:=isName e.item.data.toList∧(0≤e.day∧e.day≤99999)∧rtK e.kind e.qty e.price e.ofI
theorem hidE {p:Prop} (h:p):RowKit.Hid p:=h
theorem eba_len (x:ByteArray):x.data.toList.length=x.size:=by simp
theorem ebh_is (s:ByteArray) (h:0 < s.size):s.data.toList.head?=some s[0]:=by
 rw [List.head?_eq_getElem?,List.getElem?_eq_getElem (by simpa using h)];rfl
structure Lay where
 id:Int
 qty:Int
 val:Int
 deriving Inhabited
structure Lin where
 id:Int
 val:Int
 short:Int
 late:Int
 gain:Bool
 deriving Inhabited
structure Stk where
 ys:List Lay
 price:Int
 deriving Inhabited
def stk0:Stk:=⟨[],0⟩
def sumQ:List Lay→Int
 | []=>0
 | y :: ys=>y.qty + sumQ ys
def sumV:List Lay→Int
 | []=>0
 | y :: ys=>y.val + sumV ys
def tk:List Lay→Int→List Lay × Int × Int
 | [],n=>([],0,n)
 | y :: ys,n=>
  if n≤0 then (y :: ys,0,n)
  else if n < y.qty then (⟨y.id,y.qty - n,y.val - y.val * n / y.qty⟩ :: ys,y.val * n / y.qty,0)
  else ((tk ys (n - y.qty)).1,y.val + (tk ys (n - y.qty)).2.1,(tk ys (n - y.qty)).2.2)
def chg (o p:Int):List Lay→List Lay
 | []=>[]
 | y :: ys=>if y.id=o then ⟨y.id,y.qty,y.val + p⟩ :: ys else y :: chg o p ys
def hasId (o:Int) (ys:List Lay):Bool:=ys.any fun y=>decide (y.id=o)
def doE (s:Stk) (e:Ev):Stk × Lin:=
 if e.kind=1 then (⟨s.ys ++ [⟨e.id,e.qty,e.qty * e.price⟩],e.price⟩,⟨e.id,e.qty * e.price,0,0,false⟩)
 else if e.kind=2 then
  if hasId e.ofI s.ys then (⟨chg e.ofI e.price s.ys,s.price⟩,⟨e.id,e.price,0,0,false⟩) else (s,⟨e.id,0,0,e.price,false⟩)
 else if e.kind=3 then (⟨(tk s.ys e.qty).1,s.price⟩,⟨e.id,(tk s.ys e.qty).2.1,(tk s.ys e.qty).2.2,0,false⟩)
 else if sumQ s.ys < e.qty then (⟨s.ys ++ [⟨e.id,e.qty - sumQ s.ys,(e.qty - sumQ s.ys) * s.price⟩],s.price⟩,⟨e.id,(e.qty - sumQ s.ys) * s.price,0,0,true⟩)
 else (⟨(tk s.ys (sumQ s.ys - e.qty)).1,s.price⟩,⟨e.id,(tk s.ys (sumQ s.ys - e.qty)).2.1,0,0,false⟩)
abbrev Stks:Type:=ByteArray→Stk
def upd (M:Stks) (x:ByteArray) (s:Stk):Stks:=fun y=>if y=x then s else M y
def goS (M:Stks):List Ev→Stks
 | []=>M
 | e :: l=>goS (upd M e.item (doE (M e.item) e).1) l
def goL (M:Stks):List Ev→List Lin
 | []=>[]
 | e :: l=>(doE (M e.item) e).2 :: goL (upd M e.item (doE (M e.item) e).1) l
def stk00:Stks:=fun _=>stk0
theorem goS_append (M:Stks) (a b:List Ev):goS M (a ++ b)=goS (goS M a) b:=by
 induction a generalizing M with
 | nil=>rfl
 | cons e a ih=>exact ih _
theorem goL_append (M:Stks) (a b:List Ev):goL M (a ++ b)=goL M a ++ goL (goS M a) b:=by
 induction a generalizing M with
 | nil=>rfl
 | cons e a ih=>rw [List.cons_append,goL,goL,ih];rfl
theorem goL_len (M:Stks) (a:List Ev):(goL M a).length=a.length:=by
 induction a generalizing M with
 | nil=>rfl
 | cons e a ih=>rw [goL,List.length_cons,ih,List.length_cons]
theorem goS_snoc (M:Stks) (l:List Ev) (k:Nat) (hk:k < l.length):goS M (l.take (k + 1))=upd (goS M (l.take k)) l[k].item (doE (goS M (l.take k) l[k].item) l[k]).1:=by
 rw [List.take_succ_eq_append_getElem hk,goS_append];rfl
theorem goL_snoc (M:Stks) (l:List Ev) (k:Nat) (hk:k < l.length):goL M (l.take (k + 1))=goL M (l.take k) ++ [(doE (goS M (l.take k) l[k].item) l[k]).2]:=by
 rw [List.take_succ_eq_append_getElem hk,goL_append];rfl
theorem upd_same (M:Stks) (x:ByteArray) (s:Stk):upd M x s x=s:=by unfold upd;rw [if_pos rfl]
theorem upd_other (M:Stks) (x y:ByteArray) (s:Stk) (h:y ≠ x):upd M x s y=M y:=by unfold upd;rw [if_neg h]
theorem sumQ_append (a b:List Lay):sumQ (a ++ b)=sumQ a + sumQ b:=by
 induction a with
 | nil=>simp [sumQ]
 | cons y a ih=>rw [List.cons_append,sumQ,ih,sumQ];omega
theorem sumV_append (a b:List Lay):sumV (a ++ b)=sumV a + sumV b:=by
 induction a with
 | nil=>simp [sumV]
 | cons y a ih=>rw [List.cons_append,sumV,ih,sumV];omega
def LayOK (y:Lay):Prop:=1≤y.qty∧y.qty≤100000∧0≤y.val
theorem sum_nonneg {ys:List Lay} (h:∀ y ∈ ys,LayOK y):0≤sumQ ys∧0≤sumV ys:=by
 induction ys with
 | nil=>exact ⟨Int.le_refl _,Int.le_refl _⟩
 | cons y ys ih=>
  have h1:=h y (List.mem_cons_self ..)
  have h2:=ih fun z hz=>h z (List.mem_cons_of_mem _ hz)
  unfold LayOK at h1
  rw [sumQ,sumV]
  omega
theorem mem_sum {ys:List Lay} (h:∀ y ∈ ys,LayOK y) {y:Lay} (hy:y ∈ ys):y.val≤sumV ys∧y.qty≤sumQ ys:=by
 induction ys with
 | nil=>cases hy
 | cons z ys ih=>
  have h1:=h z (List.mem_cons_self ..)
  have hr:∀ y ∈ ys,LayOK y:=fun z hz=>h z (List.mem_cons_of_mem _ hz)
  have h2:=sum_nonneg hr
  unfold LayOK at h1
  rw [sumQ,sumV]
  rcases List.mem_cons.1 hy with rfl | hm
  ·omega
  ·have:=ih hr hm;omega
theorem part_le {v n q:Int} (hv:0≤v) (hn:0≤n) (hq:0 < q) (hnq:n≤q):0≤v * n / q∧v * n / q≤v:=by
 refine ⟨Int.ediv_nonneg (Int.mul_nonneg hv hn) (by omega),?_⟩
 refine Int.ediv_le_of_le_mul hq ?_
 exact Int.mul_le_mul_of_nonneg_left hnq hv
theorem part_split {v n q:Int} (hq:q ≠ 0):v / q * n + v % q * n / q=v * n / q:=by
 have h:v * n=v % q * n + q * (v / q * n):=by
  have:=Int.emod_add_mul_ediv v q
  conv=>lhs;rw [← this]
  rw [Int.add_mul,Int.mul_assoc]
 rw [h,Int.add_mul_ediv_left _ _ hq,Int.add_comm]
structure Took (ys:List Lay) (n:Int) (r:List Lay × Int × Int):Prop where
 ok:∀ y ∈ r.1,LayOK y
 val:sumV r.1 + r.2.1=sumV ys
 pos:0≤r.2.1
 len:r.1.length≤ys.length
 few:n≤sumQ ys→sumQ r.1=sumQ ys - n∧r.2.2=0
 many:sumQ ys < n→sumQ r.1=0∧r.2.2=n - sumQ ys
 gone:sumQ ys≤n→r.1=[]
theorem tk_took:∀ (ys:List Lay) (n:Int),(∀ y ∈ ys,LayOK y)→0≤n→Took ys n (tk ys n)
 | [],n,h,hn=>by
  refine ⟨fun y hy=>(by cases hy),(by simp [tk,sumV]),Int.le_refl _,Nat.le_refl _,fun hq=>?_,fun hq=>?_,fun _=>rfl⟩
  ·refine ⟨?_,?_⟩ <;> first | rfl | (simp only [tk,sumQ] at hq ⊢;omega)
  ·refine ⟨?_,?_⟩ <;> first | rfl | (simp only [tk,sumQ] at hq ⊢;omega)
 | y :: ys,n,h,hn=>by
  have h1:=h y (List.mem_cons_self ..)
  have hr:∀ y ∈ ys,LayOK y:=fun z hz=>h z (List.mem_cons_of_mem _ hz)
  have h2:=sum_nonneg hr
  unfold LayOK at h1
  unfold tk
  by_cases e0:n≤0
  ·rw [if_pos e0]
   refine ⟨h,by simp,Int.le_refl _,Nat.le_refl _,fun hq=>?_,fun hq=>?_,fun hq=>?_⟩
   ·refine ⟨?_,?_⟩ <;> first | rfl | (simp only [sumQ] at hq ⊢;omega)
   ·refine ⟨?_,?_⟩ <;> first | rfl | (simp only [sumQ] at hq ⊢;omega)
   ·simp only [sumQ] at hq;omega
  ·rw [if_neg e0]
   by_cases e1:n < y.qty
   ·rw [if_pos e1]
    have hp:=part_le h1.2.2 hn (by omega:0 < y.qty) (by omega)
    refine ⟨fun z hz=>?_,?_,hp.1,Nat.le_refl _,fun hq=>?_,fun hq=>?_,fun hq=>?_⟩
    ·rcases List.mem_cons.1 hz with rfl | hm
     ·refine ⟨?_,?_,?_⟩ <;> simp only <;> omega
     ·exact hr z hm
    ·simp only [sumV];omega
    ·refine ⟨?_,?_⟩ <;> first | rfl | (simp only [sumQ] at hq ⊢;omega)
    ·refine ⟨?_,?_⟩ <;> first | rfl | (simp only [sumQ] at hq ⊢;omega)
    ·simp only [sumQ] at hq;omega
   ·rw [if_neg e1]
    have ih:=tk_took ys (n - y.qty) hr (by omega)
    refine ⟨ih.ok,?_,?_,?_,fun hq=>?_,fun hq=>?_,fun hq=>ih.gone (by simp only [sumQ] at hq;omega)⟩
    ·have:=ih.val;simp only [sumV];omega
    ·have:=ih.pos;simp only;omega
    ·have:=ih.len;simp only [List.length_cons];omega
    ·simp only [sumQ] at hq ⊢
     have:=ih.few (by omega);omega
    ·simp only [sumQ] at hq ⊢
     have:=ih.many (by omega);omega
structure StkOK (k:Nat) (s:Stk):Prop where
 ok:∀ y ∈ s.ys,LayOK y
 len:s.ys.length≤k
 v:sumV s.ys≤k * 100000000000
 q:sumQ s.ys≤k * 100000
 p:0≤s.price∧s.price≤1000000
theorem stk0_ok (k:Nat):StkOK k stk0:=⟨fun y hy=>(by cases hy),Nat.zero_le _,by simp only [stk0,sumV];omega,by simp only [stk0,sumQ];omega,by simp [stk0]⟩
theorem StkOK.more {k j:Nat} {s:Stk} (h:StkOK k s) (hk:k≤j):StkOK j s:=⟨h.ok,Nat.le_trans h.len hk,by have:=h.v;omega,by have:=h.q;omega,h.p⟩
theorem chg_sum (o p:Int):∀ ys:List Lay,sumQ (chg o p ys)=sumQ ys∧sumV (chg o p ys)=sumV ys + (if hasId o ys then p else 0)∧(chg o p ys).length=ys.length
 | []=>by simp [chg,sumQ,sumV,hasId]
 | y :: ys=>by
  have ih:=chg_sum o p ys
  unfold chg
  by_cases e:y.id=o
  ·rw [if_pos e]
   have hh:hasId o (y :: ys)=true:=by simp [hasId,e]
   rw [hh]
   refine ⟨rfl,?_,by simp⟩
   simp only [sumV,if_true];omega
  ·rw [if_neg e]
   have hh:hasId o (y :: ys)=hasId o ys:=by simp [hasId,e]
   rw [hh]
   refine ⟨?_,?_,by simp [ih.2.2]⟩
   ·simp only [sumQ];omega
   ·simp only [sumV];omega
theorem chg_ok (o p:Int) (hp:0≤p):∀ ys:List Lay,(∀ y ∈ ys,LayOK y)→∀ y ∈ chg o p ys,LayOK y
 | [],_,y,hy=>by cases hy
 | z :: ys,h,y,hy=>by
  unfold chg at hy
  have hz:=h z (List.mem_cons_self ..)
  have hr:∀ y ∈ ys,LayOK y:=fun x hx=>h x (List.mem_cons_of_mem _ hx)
  split at hy
  ·rcases List.mem_cons.1 hy with rfl | hm
   ·unfold LayOK at hz ⊢;simp only;omega
   ·exact hr y hm
  ·rcases List.mem_cons.1 hy with rfl | hm
   ·exact hz
   ·exact chg_ok o p hp ys hr y hm
theorem mul_bound {q p:Int} (h1:0≤q) (h2:q≤100000) (h3:0≤p) (h4:p≤1000000):0≤q * p∧q * p≤100000000000:=by
 refine ⟨Int.mul_nonneg h1 h3,?_⟩
 have a:=Int.mul_le_mul h2 h4 h3 (by omega:(0:Int)≤100000)
 omega
structure LinOK (y:Lin):Prop where
 v:0≤y.val
 s:0≤y.short
 l:0≤y.late
theorem doE_ok {k:Nat} {s:Stk} {e:Ev} (h:StkOK k s) (hr:rtK e.kind e.qty e.price e.ofI):StkOK (k + 1) (doE s e).1∧LinOK (doE s e).2:=by
 have hn:=sum_nonneg h.ok
 have hv:=h.v
 have hq:=h.q
 have hl:=h.len
 have hp:=h.p
 have hsnoc:∀ (i q v:Int) (p:Int),1≤q→q≤100000→0≤v→v≤100000000000→0≤p→p≤1000000→StkOK (k + 1) ⟨s.ys ++ [⟨i,q,v⟩],p⟩:=fun i q v p a1 a2 a3 a4 a5 a6=>by
  refine ⟨fun y hy=>?_,by simp;omega,?_,?_,⟨a5,a6⟩⟩
  ·rcases List.mem_append.1 hy with hm | hm
   ·exact h.ok y hm
   ·rw [List.mem_singleton] at hm;subst hm;exact ⟨a1,a2,a3⟩
  ·rw [sumV_append];simp only [sumV];omega
  ·rw [sumQ_append];simp only [sumQ];omega
 have htk:∀ n:Int,0≤n→StkOK (k + 1) ⟨(tk s.ys n).1,s.price⟩∧0≤(tk s.ys n).2.1∧0≤(tk s.ys n).2.2:=fun n n0=>by
  have t:=tk_took s.ys n h.ok n0
  have t2:=sum_nonneg t.ok
  refine ⟨⟨t.ok,by have:=t.len;simp only;omega,?_,?_,hp⟩,t.pos,?_⟩
  ·have:=t.val;have:=t.pos;simp only;omega
  ·rcases Int.lt_or_le (sumQ s.ys) n with c | c
   ·have:=t.many c;simp only;omega
   ·have:=t.few c;simp only;omega
  ·rcases Int.lt_or_le (sumQ s.ys) n with c | c
   ·have:=t.many c;omega
   ·have:=t.few c;omega
 unfold doE
 rcases hr with ⟨e1,a,b,c⟩ | ⟨e1,a,b,c⟩ | ⟨e1,a,b,c⟩ | ⟨e1,a,b,c⟩
 ·rw [if_pos e1]
  have m:=mul_bound (by omega) a.2 b.1 b.2
  exact ⟨hsnoc _ _ _ _ a.1 a.2 m.1 m.2 b.1 b.2,⟨m.1,Int.le_refl _,Int.le_refl _⟩⟩
 ·rw [if_neg (by omega),if_pos e1]
  split
  ·have cs:=chg_sum e.ofI e.price s.ys
   refine ⟨⟨chg_ok _ _ (by omega) _ h.ok,by rw [cs.2.2];omega,?_,by rw [cs.1];omega,hp⟩,⟨by simp only;omega,Int.le_refl _,Int.le_refl _⟩⟩
   rw [cs.2.1];split <;> omega
  ·exact ⟨h.more (by omega),⟨Int.le_refl _,Int.le_refl _,by simp only;omega⟩⟩
 ·rw [if_neg (by omega),if_neg (by omega),if_pos e1]
  have t:=htk e.qty (by omega)
  exact ⟨t.1,⟨t.2.1,t.2.2,Int.le_refl _⟩⟩
 ·rw [if_neg (by omega),if_neg (by omega),if_neg (by omega)]
  split
  ·have m:=mul_bound (q:=e.qty - sumQ s.ys) (p:=s.price) (by omega) (by omega) hp.1 hp.2
   exact ⟨hsnoc _ _ _ _ (by omega) (by omega) m.1 m.2 hp.1 hp.2,⟨m.1,Int.le_refl _,Int.le_refl _⟩⟩
  ·have t:=htk (sumQ s.ys - e.qty) (by omega)
   exact ⟨t.1,⟨t.2.1,Int.le_refl _,Int.le_refl _⟩⟩
theorem upd_ok {k:Nat} {M:Stks} {x:ByteArray} {s:Stk} (h:∀ y,StkOK k (M y)) (hs:StkOK (k + 1) s):∀ y,StkOK (k + 1) (upd M x s y):=fun y=>by
 unfold upd
 split
 ·exact hs
 ·exact (h y).more (by omega)
theorem goS_ok:∀ (l:List Ev) (k:Nat) (M:Stks),(∀ y,StkOK k (M y))→(∀ e ∈ l,Rt e)→(∀ y,StkOK (k + l.length) (goS M l y))∧∀ z ∈ goL M l,LinOK z
 | [],k,M,h,_=>⟨h,fun z hz=>by cases hz⟩
 | e :: l,k,M,h,hr=>by
  have d:=doE_ok (h e.item) (hr e (List.mem_cons_self ..)).2.2
  have ih:=goS_ok l (k + 1) (upd M e.item (doE (M e.item) e).1) (upd_ok h d.1) fun x hx=>hr x (List.mem_cons_of_mem _ hx)
  refine ⟨fun y=>?_,fun z hz=>?_⟩
  ·have:=ih.1 y
   rw [List.length_cons,show k + (l.length + 1)=k + 1 + l.length by omega]
   exact this
  ·rcases List.mem_cons.1 hz with rfl | hm
   ·exact d.2
   ·exact ih.2 z hm
end Go.Proofs.YtbleojodidbhiaaGreatDoor
namespace Go.Proofs.YtbleojodidbhiaaGreatDoor
open Go.RowKit
structure Fig where
 inn:Int
 out:Int
 loss:Int
 gain:Int
 late:Int
 deriving Inhabited
def fig0:Fig:=⟨0,0,0,0,0⟩
def Fig.plus (a b:Fig):Fig:=⟨wrap64 (a.inn + b.inn),wrap64 (a.out + b.out),wrap64 (a.loss + b.loss),wrap64 (a.gain + b.gain),wrap64 (a.late + b.late)⟩
def Fig.minus (a b:Fig):Fig:=⟨wrap64 (a.inn - b.inn),wrap64 (a.out - b.out),wrap64 (a.loss - b.loss),wrap64 (a.gain - b.gain),wrap64 (a.late - b.late)⟩
def I64 (n:Int):Prop:=-9223372036854775808≤n∧n≤9223372036854775807
structure Fig.ok (a:Fig):Prop where
 inn:I64 a.inn
 out:I64 a.out
 loss:I64 a.loss
 gain:I64 a.gain
 late:I64 a.late
theorem i64_wrap (n:Int):I64 (wrap64 n):=by unfold I64 wrap64;omega
theorem plus_ok (a b:Fig):(a.plus b).ok:=⟨i64_wrap _,i64_wrap _,i64_wrap _,i64_wrap _,i64_wrap _⟩
theorem minus_ok (a b:Fig):(a.minus b).ok:=⟨i64_wrap _,i64_wrap _,i64_wrap _,i64_wrap _,i64_wrap _⟩
theorem fig0_ok:fig0.ok:=by constructor <;> (unfold I64 fig0;simp)
theorem wrap_back {a b:Int} (h:I64 a):wrap64 (wrap64 (a + b) - b)=a:=by unfold I64 at h;unfold wrap64;omega
theorem wrap_forth {a b:Int} (h:I64 a):wrap64 (wrap64 (a - b) + b)=a:=by unfold I64 at h;unfold wrap64;omega
theorem wrap_swap (a b c:Int):wrap64 (wrap64 (a - b) + c)=wrap64 (wrap64 (a + c) - b):=by unfold wrap64;omega
theorem plus_minus {a:Fig} (b:Fig) (h:a.ok):(a.plus b).minus b=a:=by
 unfold Fig.plus Fig.minus
 simp only [wrap_back h.inn,wrap_back h.out,wrap_back h.loss,wrap_back h.gain,wrap_back h.late]
theorem minus_plus {a:Fig} (b:Fig) (h:a.ok):(a.minus b).plus b=a:=by
 unfold Fig.plus Fig.minus
 simp only [wrap_forth h.inn,wrap_forth h.out,wrap_forth h.loss,wrap_forth h.gain,wrap_forth h.late]
theorem minus_swap (a b c:Fig):(a.minus b).plus c=(a.plus c).minus b:=by
 unfold Fig.plus Fig.minus
 simp only [wrap_swap]
def figC (f:Fig):List Value:=[.int .i64 f.inn,.int .i64 f.out,.int .i64 f.loss,.int .i64 f.gain,.int .i64 f.late]
def figV (f:Fig):Value:=.agg #[.int .i64 f.inn,.int .i64 f.out,.int .i64 f.loss,.int .i64 f.gain,.int .i64 f.late]
def figOf (kind:Int) (y:Lin):Fig:=
 if kind=1∨kind=2 then ⟨y.val,0,0,0,y.late⟩
 else if kind=3 then ⟨0,y.val,0,0,y.late⟩
 else if y.gain then ⟨0,0,0,y.val,y.late⟩
 else ⟨0,0,y.val,0,y.late⟩
structure Cl where
 month:Int
 turn:Int
 posted:Fig
 deriving Inhabited
def clC (c:Cl):List Value:=.int .i64 c.month :: .int .i64 c.turn :: figC c.posted
theorem clC_len (c:Cl):(clC c).length=7:=rfl
def unp (f:Fig):List Cl→Fig
 | []=>f
 | c :: cs=>unp (f.minus c.posted) cs
theorem unp_append (f:Fig) (a b:List Cl):unp f (a ++ b)=unp (unp f a) b:=by
 induction a generalizing f with
 | nil=>rfl
 | cons p a ih=>exact ih _
theorem unp_ok:∀ (cs:List Cl) (f:Fig),f.ok→(unp f cs).ok
 | [],_,h=>h
 | _ :: cs,_,_=>unp_ok cs _ (minus_ok _ _)
def sumC (f:Fig):List Cl→Fig
 | []=>f
 | c :: cs=>sumC (f.plus c.posted) cs
theorem sumC_append (f:Fig) (a b:List Cl):sumC f (a ++ b)=sumC (sumC f a) b:=by
 induction a generalizing f with
 | nil=>rfl
 | cons p a ih=>exact ih _
theorem unp_plus:∀ (cs:List Cl) (f g:Fig),(unp f cs).plus g=unp (f.plus g) cs
 | [],_,_=>rfl
 | c :: cs,f,g=>by
  unfold unp
  rw [unp_plus cs,minus_swap]
theorem sum_unp:∀ (cs:List Cl) (f:Fig),f.ok→sumC (unp f cs) cs=f
 | [],_,_=>rfl
 | c :: cs,f,h=>by
  unfold unp sumC
  rw [unp_plus,minus_plus _ h]
  exact sum_unp cs f h
theorem wrap_two (a b c:Int):wrap64 (wrap64 (a + c) + wrap64 (b - c))=wrap64 (a + b):=by unfold wrap64;omega
theorem plus_two (a b c:Fig):(a.plus c).plus (b.minus c)=a.plus b:=by
 unfold Fig.plus Fig.minus
 simp only [wrap_two]
theorem fig0_plus {f:Fig} (h:f.ok):fig0.plus f=f:=by
 obtain ⟨a,b,c,d,e⟩:=f
 obtain ⟨h1,h2,h3,h4,h5⟩:=h
 unfold I64 at h1 h2 h3 h4 h5
 simp only at h1 h2 h3 h4 h5
 unfold Fig.plus fig0
 simp only [Int.zero_add,Fig.mk.injEq]
 unfold wrap64
 omega
theorem sum_plus:∀ (cs:List Cl) (g f:Fig),(sumC g cs).plus (unp f cs)=g.plus f
 | [],_,_=>rfl
 | c :: cs,g,f=>by
  unfold sumC unp
  rw [sum_plus cs,plus_two]
theorem sum_close (cs:List Cl) (m t:Int) {f:Fig} (h:f.ok):sumC fig0 (cs ++ [⟨m,t,unp f cs⟩])=f:=by
 rw [sumC_append]
 show (sumC fig0 cs).plus (unp f cs)=f
 rw [sum_plus,fig0_plus h]
end Go.Proofs.YtbleojodidbhiaaGreatDoor
namespace Go.Proofs.YtbleojodidbhiaaGreatDoor
open Go.RowKit
def Fresh (w:World) (sv sv':Value):Prop:=∀ k,sv'.ownBlock=some k→sv.ownBlock=some k∨w.heap.size≤k
theorem Fresh.refl (w:World) (sv:Value):Fresh w sv sv:=fun _ h=>Or.inl h
theorem Fresh.trans {w w':World} {a b c:Value} (h:Fresh w a b) (h':Fresh w' b c) (hs:w.heap.size≤w'.heap.size):Fresh w a c:=fun k hk=>by
 rcases h' k hk with h1 | h1
 ·exact h k h1
 ·exact Or.inr (Nat.le_trans hs h1)
theorem Fresh.grow {w w':World} {a b:Value} (h:Fresh w' a b) (hs:w.heap.size≤w'.heap.size):Fresh w a b:=fun k hk=>by
 rcases h k hk with h1 | h1
 ·exact Or.inl h1
 ·exact Or.inr (Nat.le_trans hs h1)
section
variable {P:Program} (w:World)
theorem append_fresh (base:Nat) (t ty e:TypeId) (i:TypeInfo) (z:Value) (size bytes:Nat) (ht:P.underlying t=some (.slice e)) (hi:P.info? e=some i) (hz:i.zero=some z)
  (hsize:i.size=size) (hby:i.bytes=bytes) (v:Value) (n:Nat) (xs:List Value) (hown:w.ownsRow base e size v n xs)
  (a:Addr) (m c:Nat) (news:List Value) (hl:news.length=m * size) (hnews:∀ j u,news[j]?=some u→w.cell? (a.add j)=some u) (h1:∀ u ∈ news,u.oneCell'=true)
  (h63:n + m≤maxLen) (hbytes:(n + m) * bytes≤140737488355328) (hm:0 < m) {v':Value} {w':World} (hr:(Builtin.append_ #[t,t] ty #[v,.slice (some a) m c]).run P w = .ok v' w'):Fresh w v v':=by
 subst hsize
 subst hby
 have hsmall:n + m≤9223372036854775807:=by simp only [maxLen] at h63;omega
 rcases hown.2 with ⟨rfl,rfl⟩ | ⟨g,cap,cur,rfl,hbg,hg,hnc,hcm,hcs,htake⟩
 ·have hr2:=run_append_nil (P:=P) w t ty e i z ht hi hz a m c news hl hnews (by omega) (by omega) (by have hb:=hbytes;simp only [Nat.zero_add] at hb;omega)
  rw [hr2] at hr
  cases hr
  intro k hk
  simp [Value.ownBlock] at hk
  exact Or.inr (by omega)
 ·by_cases hroom:n + m≤cap
  ·have hfit:n * i.size + news.length≤cur.size:=by rw [hl,hcs,← Nat.add_mul];exact Nat.mul_le_mul_right _ hroom
   have hr2:=run_append_room (P:=P) w t ty e i ht hi g n cap cur hg a m c news hl hnews h1 hroom hfit
   rw [hr2] at hr
   cases hr
   exact fun k hk=>Or.inl (by simpa [Value.ownBlock] using hk)
  ·have holds:∀ j u,xs[j]?=some u→w.cell? ((⟨g,0,none⟩:Addr).add j)=some u:=hown.cells (g:=g) rfl
   have hr2:=run_append_grow (P:=P) w t ty e i z ht hi hz ⟨g,0,none⟩ n cap xs hown.1 holds a m c news hl hnews (by omega) (by omega) (growslice_fits (by omega) hbytes)
   rw [hr2] at hr
   cases hr
   intro k hk
   simp [Value.ownBlock] at hk
   exact Or.inr (by omega)
theorem wpList_append_new {ops:Array Oper} {rest:List Oper} {o:Oper} {a:Act} {Q:Exit→Act→World→Prop} (hgd:o.guard=none) (s x:Operand) (t:TypeId)
  (ho:o.op = .call { callee:=.builtin .append,args:=#[s,x],argTypes:=#[t,t] })
  (base:Nat) (e:TypeId) (i:TypeInfo) (z:Value) (size bytes:Nat) (ht:P.underlying t=some (.slice e)) (hi:P.info? e=some i) (hz:i.zero=some z)
  (hsize:i.size=size) (hby:i.bytes=bytes) (hzs:z.cells.size=size) (hsz:0 < size)
  (v:Value) (n:Nat) (xs:List Value) (hs:a.eval s=v) (hown:w.ownsRow base e size v n xs)
  (ad:Addr) (m c:Nat) (news:List Value) (hx:a.eval x = .slice (some ad) m c) (hl:news.length=m * size) (hnews:∀ j u,news[j]?=some u→w.cell? (ad.add j)=some u) (h1:∀ u ∈ news,u.oneCell'=true)
  (h63:n + m≤maxLen) (hbytes:(n + m) * bytes≤140737488355328) (hbase:base≤w.heap.size) (hm:0 < m)
  (h:∀ v' w',w'.ownsRow base e size v' (n + m) (xs ++ news)→w.grownBy w' v.ownBlock→Fresh w v v'→wpList P ops Q rest (a.put o.dst v') w'):wpList P ops Q (o :: rest) a w:=
 wpList_plain hgd fun _ hK=>by
  obtain ⟨v',w',hr,h2,h3,h4⟩:=run_append_own (P:=P) w base t o.type e i z size bytes ht hi hz hsize hby hzs hsz v n xs hown ad m c news hl hnews h1 h63 hbytes hbase
  have hf:=append_fresh w base t o.type e i z size bytes ht hi hz hsize hby v n xs hown ad m c news hl hnews h1 h63 hbytes hm hr
  unfold Oper.wp execOp
  simp only [ho,resolve,invoke,builtin,Sem.run_bind,Sem.run_pure,Result.andThen_ok,List.map_toArray,List.map_cons,List.map_nil,hs,hx,hr]
  exact hK _ _ (h v' w' h2 h3 hf)
end
end Go.Proofs.YtbleojodidbhiaaGreatDoor
namespace Go.Proofs.YtbleojodidbhiaaGreatDoor
open Go.RowKit Go.Maps
def heldE (v:Value):Option (DataW Value × List MemPlace):=some (.held v,[])
theorem heldE_inv {v:Value} {d:DataW Value} {ps:List MemPlace} (h:heldE v=some (d,ps)):d = .held v:=by
 unfold heldE at h;cases h;rfl
theorem held_inj {a b:Value} (h:(DataW.held a:DataW Value) = .held b):a=b:=by cases h;rfl
theorem map_same {P:Program} {k:TypeId} {R:Value→Option (DataW Value × List MemPlace)} {w w':World} {mb n:Nat} {D:DataW Value} (h:w.ownsMap P k R mb n D) (e:w'.heap[mb]?=w.heap[mb]?):w'.ownsMap P k R mb n D:=by
 obtain ⟨es,clock,hb,rest⟩:=h
 exact ⟨es,clock,by rw [e];exact hb,rest⟩
theorem map_lt {P:Program} {k:TypeId} {R:Value→Option (DataW Value × List MemPlace)} {w:World} {mb n:Nat} {D:DataW Value} (h:w.ownsMap P k R mb n D):mb < w.heap.size:=h.lt
theorem row_same {w w':World} {B:Nat} {T:TypeId} {m n:Nat} {v:Value} {xs:List Value} (h:w.ownsRow B T m v n xs) (e:∀ k,v.ownBlock=some k→w'.heap[k]?=w.heap[k]?):w'.ownsRow B T m v n xs:=by
 refine ⟨h.1,?_⟩
 rcases h.2 with hn | ⟨g,cap,cur,rfl,hb,hg,rest⟩
 ·exact Or.inl hn
 ·exact Or.inr ⟨g,cap,cur,rfl,hb,by rw [e g rfl];exact hg,rest⟩
def keyB (x:ByteArray):Lit:=.string x.data.toList
theorem keyB_key (x:ByteArray):WideAt.IsKeyLit (keyB x):=trivial
theorem keyB_inj {x y:ByteArray} (h:keyB x=keyB y):x=y:=by
 unfold keyB at h
 simp only [Lit.string.injEq] at h
 apply ByteArray.ext
 exact Array.toList_inj.1 h
theorem law_strT:Keyed Tryz.prog 9:=string_keyed Tryz.underlying9
theorem key_str (x:ByteArray) (h:x.size≤maxLen):keyOf Tryz.prog 9 (.string x)=some (keyB x):=WideMaps.keyOf_string_mk Tryz.underlying9 h
end Go.Proofs.YtbleojodidbhiaaGreatDoor
