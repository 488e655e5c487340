/-  -/
import Derived.Test.YtbleojodidbhiaaGreatDoorBnA
import Derived.Laws.BitsAllLaws
namespace Go.Proofs.YtbleojodidbhiaaGreatDoor
open Go.RowKit
structure Pst where
 deb:ByteArray
 cre:ByteArray
 amt:Int
 deriving Inhabited
def pstC (p:Pst):List Value:=[.string p.deb,.string p.cre,.int .i64 p.amt]
def pstV (p:Pst):Value:=.agg #[.string p.deb,.string p.cre,.int .i64 p.amt]
theorem pstC_len (p:Pst):(pstC p).length=3:=rfl
theorem pstC_flat (ps:List Pst):(ps.flatMap pstC).length=ps.length * 3:=by
 induction ps with
 | nil=>rfl
 | cons p ps ih=>rw [List.flatMap_cons,List.length_append,ih,pstC_len,List.length_cons];omega
def aGain:ByteArray:=⟨#[103,97,105,110]⟩
def aLate:ByteArray:=⟨#[108,97,116,101]⟩
def aLoss:ByteArray:=⟨#[108,111,115,115]⟩
def aSold:ByteArray:=⟨#[115,111,108,100]⟩
def aStock:ByteArray:=⟨#[115,116,111,99,107]⟩
def aSupply:ByteArray:=⟨#[115,117,112,112,108,121]⟩
def post1 (p:Pst):List Pst:=if 0 < p.amt then [p] else if p.amt < 0 then [⟨p.cre,p.deb,wrap64 (-p.amt)⟩] else []
def fives (f:Fig):List Pst:=[⟨aStock,aSupply,f.inn⟩,⟨aSold,aStock,f.out⟩,⟨aLoss,aStock,f.loss⟩,⟨aStock,aGain,f.gain⟩,⟨aLate,aSupply,f.late⟩]
def postL (f:Fig):List Pst:=(fives f).flatMap post1
theorem post1_len (p:Pst):(post1 p).length≤1:=by unfold post1;split <;> (try split) <;> simp
theorem postf_len:∀ l:List Pst,(l.flatMap post1).length≤l.length
 | []=>Nat.le_refl _
 | p :: l=>by
  rw [List.flatMap_cons,List.length_append,List.length_cons]
  have:=post1_len p
  have:=postf_len l
  omega
theorem postL_len (f:Fig):(postL f).length≤5:=postf_len (fives f)
def bal1 (k:ByteArray) (n:Int) (p:Pst):Int:=
 let a:=if p.deb=k then wrap64 (n + p.amt) else n
 if p.cre=k then wrap64 (a - p.amt) else a
def bal (k:ByteArray) (n:Int) (ps:List Pst):Int:=ps.foldl (bal1 k) n
def sig (k:ByteArray) (p:Pst):Int:=(if p.deb=k then p.amt else 0) - (if p.cre=k then p.amt else 0)
def sigs (k:ByteArray):List Pst→Int
 | []=>0
 | p :: ps=>sig k p + sigs k ps
theorem sigs_append (k:ByteArray):∀ a b:List Pst,sigs k (a ++ b)=sigs k a + sigs k b
 | [],b=>by simp [sigs]
 | p :: a,b=>by simp only [List.cons_append,sigs,sigs_append k a b];omega
theorem wrap_add (a b:Int):wrap64 (wrap64 a + b)=wrap64 (a + b):=by unfold wrap64;omega
theorem wrap_add' (a b:Int):wrap64 (a + wrap64 b)=wrap64 (a + b):=by unfold wrap64;omega
theorem wrap_sub (a b:Int):wrap64 (wrap64 a - b)=wrap64 (a - b):=by unfold wrap64;omega
theorem wrap_wrap (a:Int):wrap64 (wrap64 a)=wrap64 a:=by unfold wrap64;omega
theorem wrap_same {a:Int} (h:I64 a):wrap64 a=a:=by unfold I64 at h;unfold wrap64;omega
theorem bal1_wrap (k:ByteArray) (n:Int) (p:Pst):bal1 k (wrap64 n) p=wrap64 (n + sig k p):=by
 unfold bal1 sig
 by_cases h1:p.deb=k <;> by_cases h2:p.cre=k <;> simp only [h1,h2,if_true,if_false]
 ·rw [wrap_add,wrap_sub];congr 1;omega
 ·rw [wrap_add];congr 1;omega
 ·rw [wrap_sub];congr 1;omega
 ·simp
theorem bal_wrap (k:ByteArray):∀ (ps:List Pst) (n:Int),bal k (wrap64 n) ps=wrap64 (n + sigs k ps)
 | [],n=>by simp [bal,sigs]
 | p :: ps,n=>by
  show bal k (bal1 k (wrap64 n) p) ps=_
  rw [bal1_wrap,bal_wrap k ps]
  simp only [sigs]
  congr 1;omega
theorem bal_zero (k:ByteArray) (ps:List Pst):bal k 0 ps=wrap64 (sigs k ps):=by
 have:=bal_wrap k ps 0
 simpa [wrap64] using this
def lin (k:ByteArray) (f:Fig):Int:=
 if k=aStock then f.inn - f.out - f.loss + f.gain
 else if k=aSupply then -f.inn - f.late
 else if k=aSold then f.out
 else if k=aLoss then f.loss
 else if k=aGain then -f.gain
 else if k=aLate then f.late
 else 0
theorem sigs_post1 (k:ByteArray) (p:Pst):wrap64 (sigs k (post1 p))=wrap64 (sig k p):=by
 unfold post1
 by_cases h1:0 < p.amt
 ·rw [if_pos h1];simp [sigs]
 ·rw [if_neg h1]
  by_cases h2:p.amt < 0
  ·rw [if_pos h2]
   simp only [sigs,sig]
   by_cases c1:p.cre=k <;> by_cases c2:p.deb=k <;> simp only [c1,c2,if_true,if_false] <;> unfold wrap64 <;> omega
  ·rw [if_neg h2]
   have:p.amt=0:=by omega
   simp [sigs,sig,this]
theorem sigs_flat (k:ByteArray):∀ l:List Pst,wrap64 (sigs k (l.flatMap post1))=wrap64 (sigs k l)
 | []=>rfl
 | p :: l=>by
  rw [List.flatMap_cons,sigs_append]
  have h1:=sigs_post1 k p
  have h2:=sigs_flat k l
  simp only [sigs]
  rw [← wrap_add,h1,wrap_add,← wrap_add',h2,wrap_add']
theorem ne_acc:aStock ≠ aSupply∧aStock ≠ aSold∧aStock ≠ aLoss∧aStock ≠ aGain∧aStock ≠ aLate∧aSupply ≠ aSold∧aSupply ≠ aLoss∧aSupply ≠ aGain∧aSupply ≠ aLate∧aSold ≠ aLoss∧aSold ≠ aGain∧aSold ≠ aLate∧aLoss ≠ aGain∧aLoss ≠ aLate∧aGain ≠ aLate:=by decide
theorem sigs_fives (k:ByteArray) (f:Fig):sigs k (fives f)=lin k f:=by
 obtain ⟨h1,h2,h3,h4,h5,h6,h7,h8,h9,h10,h11,h12,h13,h14,h15⟩:=ne_acc
 simp only [fives,sigs,sig,lin]
 by_cases e1:k=aStock
 ·subst e1;simp [h1.symm,h2.symm,h3.symm,h4.symm,h5.symm];omega
 ·rw [if_neg e1]
  have e1':¬ aStock=k:=fun e=>e1 e.symm
  by_cases e2:k=aSupply
  ·subst e2;simp [h1,h6.symm,h7.symm,h8.symm,h9.symm];omega
  ·rw [if_neg e2]
   have e2':¬ aSupply=k:=fun e=>e2 e.symm
   by_cases e3:k=aSold
   ·subst e3;simp [h2,h6,h10.symm,h11.symm,h12.symm]
   ·rw [if_neg e3]
    have e3':¬ aSold=k:=fun e=>e3 e.symm
    by_cases e4:k=aLoss
    ·subst e4;simp [h3,h7,h10,h13.symm,h14.symm]
    ·rw [if_neg e4]
     have e4':¬ aLoss=k:=fun e=>e4 e.symm
     by_cases e5:k=aGain
     ·subst e5;simp [h4,h8,h11,h13,h15.symm]
     ·rw [if_neg e5]
      have e5':¬ aGain=k:=fun e=>e5 e.symm
      by_cases e6:k=aLate
      ·subst e6;simp [h5,h9,h12,h14,h15]
      ·rw [if_neg e6]
       have e6':¬ aLate=k:=fun e=>e6 e.symm
       simp [e1',e2',e3',e4',e5',e6']
theorem sigs_postL (k:ByteArray) (f:Fig):wrap64 (sigs k (postL f))=wrap64 (lin k f):=by
 unfold postL
 rw [sigs_flat,sigs_fives]
def accs (ps:List Pst):List ByteArray:=ps.flatMap fun p=>[p.deb,p.cre]
theorem sigs_none {k:ByteArray}:∀ {ps:List Pst},k ∉ accs ps→sigs k ps=0
 | [],_=>rfl
 | p :: ps,h=>by
  have e:accs (p :: ps)=p.deb :: p.cre :: accs ps:=rfl
  rw [e,List.mem_cons,List.mem_cons] at h
  simp only [not_or] at h
  have h1:¬ p.deb=k:=fun c=>h.1 c.symm
  have h2:¬ p.cre=k:=fun c=>h.2.1 c.symm
  simp [sigs,sig,h1,h2,sigs_none h.2.2]
end Go.Proofs.YtbleojodidbhiaaGreatDoor
namespace Go.Proofs.YtbleojodidbhiaaGreatDoor
def crT (c:Nat):Nat:=if c % 2=1 then (c / 2) ^^^ 3988292384 else c / 2
def crN:Nat→Nat→Nat
 | 0,c=>c
 | k + 1,c=>crT (crN k c)
def crB (c:Nat) (b:UInt8):Nat:=crN 8 (c ^^^ b.toNat)
def crL (l:List UInt8):Nat:=l.foldl crB 4294967295
def sumL (l:List UInt8):Nat:=4294967295 - crL l
theorem crT_lt {c:Nat} (h:c < 4294967296):crT c < 4294967296:=by
 unfold crT
 have h2:c / 2 < 2 ^ 32:=by omega
 split
 ·exact Nat.xor_lt_two_pow (n:=32) h2 (by omega)
 ·omega
theorem crN_lt {c:Nat} (h:c < 4294967296):∀ k,crN k c < 4294967296
 | 0=>h
 | k + 1=>crT_lt (crN_lt h k)
theorem byte_lt (b:UInt8):b.toNat < 256:=by have:=b.toNat_lt;omega
theorem xor_byte_lt {c:Nat} (h:c < 4294967296) (b:UInt8):c ^^^ b.toNat < 4294967296:=
 Nat.xor_lt_two_pow (n:=32) h (by have:=byte_lt b;omega)
theorem crB_lt {c:Nat} (h:c < 4294967296) (b:UInt8):crB c b < 4294967296:=crN_lt (xor_byte_lt h b) 8
theorem fold_lt:∀ (l:List UInt8) {c:Nat},c < 4294967296→l.foldl crB c < 4294967296
 | [],_,h=>h
 | b :: l,_,h=>fold_lt l (crB_lt h b)
theorem crL_lt (l:List UInt8):crL l < 4294967296:=fold_lt l (by omega)
theorem sumL_lt (l:List UInt8):sumL l < 4294967296:=by unfold sumL;omega
theorem crL_snoc (l:List UInt8) (b:UInt8):crL (l ++ [b])=crB (crL l) b:=by simp [crL,List.foldl_append]
theorem crT_inj {a b:Nat} (ha:a < 4294967296) (hb:b < 4294967296) (h:crT a=crT b):a=b:=by
 have top:∀ x:Nat,x < 4294967296→((x / 2) ^^^ 3988292384).testBit 31=true:=fun x hx=>by
  rw [Nat.testBit_xor,Nat.testBit_lt_two_pow (x:=x / 2) (i:=31) (by omega)]
  decide
 have low:∀ x:Nat,x < 4294967296→(x / 2).testBit 31=false:=fun x hx=>Nat.testBit_lt_two_pow (by omega)
 unfold crT at h
 split at h <;> split at h
 ·have h2:a / 2=b / 2:=by
   have:=congrArg (· ^^^ 3988292384) h
   simpa [Nat.xor_assoc] using this
  omega
 ·have:=top a ha
  rw [h,low b hb] at this;cases this
 ·have:=top b hb
  rw [← h,low a ha] at this;cases this
 ·omega
theorem crN_inj {a b:Nat} (ha:a < 4294967296) (hb:b < 4294967296):∀ k,crN k a=crN k b→a=b
 | 0,h=>h
 | k + 1,h=>crN_inj ha hb k (crT_inj (crN_lt ha k) (crN_lt hb k) h)
theorem crB_inj_c {a b:Nat} (ha:a < 4294967296) (hb:b < 4294967296) (x:UInt8) (h:crB a x=crB b x):a=b:=by
 have h1:=crN_inj (xor_byte_lt ha x) (xor_byte_lt hb x) 8 h
 have:=congrArg (· ^^^ x.toNat) h1
 simpa [Nat.xor_assoc] using this
theorem crB_inj_b {c:Nat} (hc:c < 4294967296) {x y:UInt8} (h:crB c x=crB c y):x=y:=by
 have h1:=crN_inj (xor_byte_lt hc x) (xor_byte_lt hc y) 8 h
 have h2:=congrArg (c ^^^ ·) h1
 simp only [← Nat.xor_assoc,Nat.xor_self,Nat.zero_xor] at h2
 exact UInt8.toNat_inj.1 h2
theorem fold_inj:∀ (l:List UInt8) {a b:Nat},a < 4294967296→b < 4294967296→l.foldl crB a=l.foldl crB b→a=b
 | [],_,_,_,_,h=>h
 | x :: l,_,_,ha,hb,h=>crB_inj_c ha hb x (fold_inj l (crB_lt ha x) (crB_lt hb x) h)
theorem sum_one (p q:List UInt8) {x y:UInt8} (h:sumL (p ++ x :: q)=sumL (p ++ y :: q)):x=y:=by
 have h1:=crL_lt (p ++ x :: q)
 have h2:=crL_lt (p ++ y :: q)
 have h3:crL (p ++ x :: q)=crL (p ++ y :: q):=by unfold sumL at h;omega
 unfold crL at h3
 rw [List.foldl_append,List.foldl_append,List.foldl_cons,List.foldl_cons] at h3
 have hc:=crL_lt p
 exact crB_inj_b hc (fold_inj q (crB_lt hc x) (crB_lt hc y) h3)
def rfT (c:Nat) (b:UInt8) (k:Nat):Nat:=if (c ^^^ (b.toNat / 2 ^ k % 2)) % 2=1 then (c / 2) ^^^ 3988292384 else c / 2
def rfN (c:Nat) (b:UInt8):Nat→Nat
 | 0=>c
 | k + 1=>rfT (rfN c b k) b k
theorem xor_mod2 (a b:Nat):(a ^^^ b) % 2=(a % 2) ^^^ (b % 2):=by
 have:=Nat.xor_mod_two_pow (a:=a) (b:=b) (n:=1)
 simpa using this
theorem xor_div2 (a b:Nat):(a ^^^ b) / 2=(a / 2) ^^^ (b / 2):=by
 have:=Nat.xor_div_two_pow (a:=a) (b:=b) (n:=1)
 simpa using this
theorem rf_cr (c:Nat) (b:UInt8):∀ k,crN k (c ^^^ b.toNat)=rfN c b k ^^^ (b.toNat / 2 ^ k)
 | 0=>by simp [crN,rfN]
 | k + 1=>by
  have ih:=rf_cr c b k
  have e:b.toNat / 2 ^ (k + 1)=b.toNat / 2 ^ k / 2:=by rw [Nat.pow_succ,Nat.div_div_eq_div_mul]
  show crT (crN k (c ^^^ b.toNat))=rfT (rfN c b k) b k ^^^ _
  rw [ih,e]
  generalize rfN c b k=r
  unfold crT rfT
  generalize hB:b.toNat / 2 ^ k=B
  have hm:(r ^^^ B) % 2=(r ^^^ (B % 2)) % 2:=by rw [xor_mod2,xor_mod2 r (B % 2)];simp
  rw [hm]
  split
  ·rw [xor_div2];simp only [Nat.xor_assoc];rw [Nat.xor_comm (B / 2)]
  ·rw [xor_div2]
theorem rf_crB (c:Nat) (b:UInt8):rfN c b 8=crB c b:=by
 have:=rf_cr c b 8
 have hb:=byte_lt b
 have e:b.toNat / 2 ^ 8=0:=by omega
 rw [e,Nat.xor_zero] at this
 exact this.symm
theorem rfT_lt {c:Nat} (h:c < 4294967296) (b:UInt8) (k:Nat):rfT c b k < 4294967296:=by
 unfold rfT
 have h2:c / 2 < 2 ^ 32:=by omega
 split
 ·exact Nat.xor_lt_two_pow (n:=32) h2 (by omega)
 ·omega
theorem rfN_lt {c:Nat} (h:c < 4294967296) (b:UInt8):∀ k,rfN c b k < 4294967296
 | 0=>h
 | k + 1=>rfT_lt (rfN_lt h b k) b k
def fourL (n:Nat):List UInt8:=[(n % 256).toUInt8,(n / 256 % 256).toUInt8,(n / 65536 % 256).toUInt8,(n / 16777216 % 256).toUInt8]
theorem four_len (n:Nat):(fourL n).length=4:=rfl
def numL (l:List UInt8):Nat:=(l.getD 0 0).toNat + 256 * (l.getD 1 0).toNat + 65536 * (l.getD 2 0).toNat + 16777216 * (l.getD 3 0).toNat
theorem toU8 (n:Nat):((n % 256).toUInt8).toNat=n % 256:=by
 show (UInt8.ofNat (n % 256)).toNat=_
 rw [UInt8.toNat_ofNat']
 omega
theorem num_four (n:Nat) (r:List UInt8) (h:n < 4294967296):numL (fourL n ++ r)=n:=by
 have e0:=toU8 n
 have e1:=toU8 (n / 256)
 have e2:=toU8 (n / 65536)
 have e3:=toU8 (n / 16777216)
 simp only [numL,fourL,List.cons_append,List.nil_append,List.getD_cons_zero,List.getD_cons_succ,e0,e1,e2,e3]
 omega
theorem four_inj {a b:Nat} (ha:a < 4294967296) (hb:b < 4294967296) (h:fourL a=fourL b):a=b:=by
 have h1:=num_four a [] ha
 have h2:=num_four b [] hb
 rw [h] at h1
 omega
theorem num_lt (l:List UInt8):numL l < 4294967296:=by
 unfold numL
 have h0:=byte_lt (l.getD 0 0)
 have h1:=byte_lt (l.getD 1 0)
 have h2:=byte_lt (l.getD 2 0)
 have h3:=byte_lt (l.getD 3 0)
 omega
def headL (n:Nat) (t:List UInt8):List UInt8:=fourL t.length ++ fourL n
def bodyL (n:Nat) (t:List UInt8):List UInt8:=headL n t ++ fourL (sumL (headL n t)) ++ t
def frameL (n:Nat) (t:List UInt8):List UInt8:=bodyL n t ++ fourL (sumL (bodyL n t))
theorem head_len (n:Nat) (t:List UInt8):(headL n t).length=8:=rfl
theorem body_len (n:Nat) (t:List UInt8):(bodyL n t).length=12 + t.length:=by simp [bodyL,head_len,four_len];omega
theorem frame_len (n:Nat) (t:List UInt8):(frameL n t).length=16 + t.length:=by simp [frameL,body_len,four_len];omega
theorem frame_num (n:Nat) (t r:List UInt8) (h:t.length < 4294967296):numL (frameL n t ++ r)=t.length:=by
 unfold frameL bodyL headL
 simp only [List.append_assoc]
 exact num_four _ _ h
theorem frame_line (n:Nat) (t r:List UInt8):((frameL n t ++ r).drop 12).take t.length=t:=by
 unfold frameL bodyL
 rw [List.append_assoc,List.append_assoc,List.drop_append_of_le_length (by simp [head_len,four_len])]
 rw [List.drop_of_length_le (by simp [head_len,four_len]),List.nil_append,List.take_left]
def Heads (n:Nat) (t r:List UInt8):Prop:=t.length≤200∧n≤100000∧frameL n t <+: r
theorem Heads.num {n:Nat} {t r:List UInt8} (h:Heads n t r):numL r=t.length:=by
 obtain ⟨h1,_,r',rfl⟩:=h
 exact frame_num _ _ _ (by omega)
theorem Heads.line {n:Nat} {t r:List UInt8} (h:Heads n t r):t=(r.drop 12).take (numL r):=by
 rw [h.num]
 obtain ⟨h1,_,r',rfl⟩:=h
 exact (frame_line _ _ _).symm
theorem Heads.same {n:Nat} {t t' r:List UInt8} (h:Heads n t r) (h':Heads n t' r):t=t':=by rw [h.line,← h'.line]
theorem Heads.len {n:Nat} {t r:List UInt8} (h:Heads n t r):16 + t.length≤r.length:=by
 have:=h.2.2.length_le
 rw [frame_len] at this;exact this
inductive Rd:Nat→List UInt8→List (List UInt8)→Prop
 | none {n r} (h:∀ t,¬ Heads n t r):Rd n r []
 | some {n r t ls} (h:Heads n t r) (k:Rd (n + 1) (r.drop (16 + t.length)) ls):Rd n r (t :: ls)
theorem Rd.same {n:Nat} {r:List UInt8} {a b:List (List UInt8)} (h:Rd n r a) (h':Rd n r b):a=b:=by
 induction h generalizing b with
 | none h=>cases h' with
  | none _=>rfl
  | some k _=>exact absurd k (h _)
 | some h _ ih=>cases h' with
  | none k=>exact absurd h (k _)
  | some k j=>
   obtain rfl:=h.same k
   rw [ih j]
def totL (l:List (List UInt8)):Nat:=(l.map fun t=>16 + t.length).sum
theorem tot_snoc (l:List (List UInt8)) (t:List UInt8):totL (l ++ [t])=totL l + (16 + t.length):=by simp [totL]
theorem tot_cons (t:List UInt8) (l:List (List UInt8)):totL (t :: l)=16 + t.length + totL l:=by simp [totL]
def Sofar (s:List UInt8) (ds:List (List UInt8)):Prop:=totL ds≤s.length∧ds.length≤100001∧(∀ t ∈ ds,t.length≤200)∧∀ ls,Rd ds.length (s.drop (totL ds)) ls→Rd 0 s (ds ++ ls)
theorem Sofar.nil (s:List UInt8):Sofar s []:=⟨Nat.zero_le _,by simp,by simp,fun ls h=>h⟩
theorem Sofar.step {s:List UInt8} {ds:List (List UInt8)} (h:Sofar s ds) {t:List UInt8} (k:Heads ds.length t (s.drop (totL ds))):Sofar s (ds ++ [t]):=by
 have hl:=k.len
 rw [List.length_drop] at hl
 have h1:=h.1
 refine ⟨by rw [tot_snoc];omega,?_,?_,fun ls j=>?_⟩
 ·have:=k.2.1
  rw [List.length_append];simp;omega
 ·intro x hx
  rcases List.mem_append.1 hx with hx | hx
  ·exact h.2.2.1 x hx
  ·rw [List.mem_singleton] at hx;subst hx;exact k.1
 ·rw [List.append_assoc]
  refine h.2.2.2 _ ?_
  refine Rd.some k ?_
  rw [List.drop_drop,← tot_snoc]
  rw [List.length_append] at j
  exact j
theorem Sofar.done {s:List UInt8} {ds:List (List UInt8)} (h:Sofar s ds) (k:∀ t,¬ Heads ds.length t (s.drop (totL ds))):Rd 0 s ds:=by
 have:=h.2.2.2 [] (Rd.none k)
 rwa [List.append_nil] at this
def framesL:Nat→List (List UInt8)→List UInt8
 | _,[]=>[]
 | n,t :: l=>frameL n t ++ framesL (n + 1) l
theorem frames_len:∀ (n:Nat) (l:List (List UInt8)),(framesL n l).length=totL l
 | _,[]=>rfl
 | n,t :: l=>by rw [framesL,List.length_append,frame_len,frames_len,tot_cons]
theorem frames_snoc:∀ (n:Nat) (l:List (List UInt8)) (t:List UInt8),framesL n (l ++ [t])=framesL n l ++ frameL (n + l.length) t
 | n,[],t=>by simp [framesL]
 | n,x :: l,t=>by
  rw [List.cons_append,framesL,frames_snoc (n + 1) l t,framesL,List.append_assoc]
  have:n + 1 + l.length=n + (x :: l).length:=by simp;omega
  rw [this]
theorem not_heads_short {n:Nat} {r:List UInt8} (h:r.length < 16):∀ t,¬ Heads n t r:=fun t k=>by have:=k.len;omega
def wholeK:Nat→List (List UInt8)→Nat
 | _,[]=>0
 | c,t :: l=>if 16 + t.length≤c then wholeK (c - (16 + t.length)) l + 1 else 0
theorem whole_le:∀ (c:Nat) (l:List (List UInt8)),wholeK c l≤l.length
 | _,[]=>Nat.le_refl _
 | c,t :: l=>by
  unfold wholeK
  split
  ·have:=whole_le (c - (16 + t.length)) l
   simp;omega
  ·exact Nat.zero_le _
theorem torn:∀ (l:List (List UInt8)) (n c:Nat),n + l.length≤100000→(∀ t ∈ l,t.length≤200)→c≤totL l→Rd n ((framesL n l).take c) (l.take (wholeK c l))
 | [],n,c,_,_,_=>by
  simp only [framesL,List.take_nil]
  exact Rd.none (not_heads_short (by simp))
 | t :: l,n,c,hn,hl,hc=>by
  have ht:=hl t (List.mem_cons_self ..)
  simp only [List.length_cons] at hn
  rw [tot_cons] at hc
  unfold wholeK framesL
  by_cases hlt:16 + t.length≤c
  ·rw [if_pos hlt,List.take_succ_cons]
   rw [List.take_append,List.take_of_length_le (by rw [frame_len];exact hlt)]
   have hh:Heads n t (frameL n t ++ (framesL (n + 1) l).take (c - (frameL n t).length)):=⟨ht,by omega,List.prefix_append ..⟩
   refine Rd.some hh ?_
   rw [show 16 + t.length=(frameL n t).length from (frame_len n t).symm,List.drop_left]
   rw [frame_len]
   exact torn l (n + 1) _ (by omega) (fun x hx=>hl x (List.mem_cons_of_mem _ hx)) (by omega)
  ·rw [if_neg hlt,List.take_zero]
   refine Rd.none fun t' k=>?_
   have hk:=k.len
   have hkl:=k.num
   rw [List.length_take] at hk
   have h4:numL (frameL n t ++ framesL (n + 1) l)=t.length:=frame_num _ _ _ (by omega)
   have h5:numL ((frameL n t ++ framesL (n + 1) l).take c)=numL (frameL n t ++ framesL (n + 1) l):=by
    have h16:16≤c:=by omega
    unfold numL
    simp only [List.getD_eq_getElem?_getD]
    rw [List.getElem?_take_of_lt (by omega),List.getElem?_take_of_lt (by omega),List.getElem?_take_of_lt (by omega),List.getElem?_take_of_lt (by omega)]
   omega
theorem whole_all:∀ (l:List (List UInt8)),wholeK (totL l) l=l.length
 | []=>rfl
 | t :: l=>by
  unfold wholeK
  rw [tot_cons,if_pos (by omega),Nat.add_sub_cancel_left,whole_all l];rfl
theorem read_frames (l:List (List UInt8)) (n:Nat) (hn:n + l.length≤100000) (hl:∀ t ∈ l,t.length≤200):Rd n (framesL n l) l:=by
 have:=torn l n (totL l) hn hl (Nat.le_refl _)
 rw [whole_all,List.take_length,List.take_of_length_le (by rw [frames_len];exact Nat.le_refl _)] at this
 exact this
theorem spoilt_one (n:Nat) (t r:List UInt8) (p:Nat) (y:UInt8) (hp:p < 16 + t.length) (ht:t.length≤200) (hne:(frameL n t)[p]? ≠ some y) :
  ∀ t',¬ Heads n t' ((frameL n t).set p y ++ r):=fun t' k=>by
 obtain ⟨k1,_,hpre⟩:=k
 have hlen:(frameL n t).length=16 + t.length:=frame_len n t
 have take_of (m:Nat) (hm:m≤16 + t'.length) (hm2:m≤16 + t.length):(frameL n t').take m=((frameL n t).set p y).take m:=by
  have h1:=List.prefix_iff_eq_take.1 hpre
  have h2:(frameL n t').take m=(((frameL n t).set p y ++ r).take (frameL n t').length).take m:=by rw [← h1]
  rw [h2,List.take_take,frame_len,Nat.min_eq_left hm,List.take_append_of_le_length (by rw [List.length_set,hlen];exact hm2)]
 have hbit:(frameL n t)[p]?=some ((frameL n t)[p]'(by rw [hlen];exact hp)):=List.getElem?_eq_getElem _
 obtain ⟨x,hx⟩:∃ x,(frameL n t)[p]'(by rw [hlen];exact hp)=x:=⟨_,rfl⟩
 rw [hx] at hbit
 have hxy:x ≠ y:=fun e=>hne (by rw [hbit,e])
 have e12:=take_of 12 (by omega) (by omega)
 have f12:∀ (u:List UInt8),(frameL n u).take 12=headL n u ++ fourL (sumL (headL n u)):=fun u=>by
  unfold frameL bodyL
  rw [List.append_assoc,List.take_append_of_le_length (by simp [head_len,four_len]),List.take_of_length_le (by simp [head_len,four_len])]
 rw [List.take_set,f12,f12] at e12
 have h8:(headL n t').length=8:=rfl
 have h8':(headL n t).length=8:=rfl
 by_cases p8:p < 8
 ·rw [List.set_append_left _ _ (by rw [h8'];exact p8)] at e12
  obtain ⟨ea,eb⟩:=List.append_inj e12 (by rw [List.length_set,h8,h8'])
  have es:=four_inj (sumL_lt _) (sumL_lt _) eb
  rw [ea] at es
  have hxe:(headL n t)[p]'(by rw [h8'];exact p8)=x:=by
   rw [← hx]
   unfold frameL bodyL
   rw [List.getElem_append_left (by simp [head_len,four_len];omega),List.getElem_append_left (by simp [head_len,four_len];omega),List.getElem_append_left (by rw [h8'];exact p8)]
  have hs:=List.set_eq_take_append_cons_drop (l:=headL n t) (i:=p) (a:=y)
  rw [if_pos (by rw [h8'];exact p8)] at hs
  have ho:headL n t=(headL n t).take p ++ x :: (headL n t).drop (p + 1):=by
   conv=>lhs;rw [← List.take_append_drop p (headL n t)]
   rw [List.drop_eq_getElem_cons (by rw [h8'];exact p8),hxe]
  rw [hs] at es
  have es2:sumL ((headL n t).take p ++ y :: (headL n t).drop (p + 1))=sumL ((headL n t).take p ++ x :: (headL n t).drop (p + 1)):=by rw [← ho];exact es
  exact hxy (sum_one _ _ es2.symm)
 ·by_cases p12:p < 12
  ·rw [List.set_append_right _ _ (by rw [h8'];omega)] at e12
   obtain ⟨ea,eb⟩:=List.append_inj e12 (by rw [h8,h8'])
   rw [ea] at eb
   have hxe:(fourL (sumL (headL n t)))[p - 8]?=some x:=by
    rw [← hbit]
    unfold frameL bodyL
    rw [List.getElem?_append_left (by simp [head_len,four_len];omega),List.getElem?_append_left (by simp [head_len,four_len];omega),List.getElem?_append_right (by rw [h8'];omega),h8']
   rw [h8'] at eb
   have:=congrArg (fun l=>l[p - 8]?) eb
   simp only [hxe] at this
   rw [List.getElem?_set_self (by simp [four_len];omega)] at this
   exact hxy (Option.some.inj this)
  ·rw [List.set_eq_of_length_le (by simp [head_len,four_len];omega)] at e12
   obtain ⟨ea,_⟩:=List.append_inj e12 (by rw [h8,h8'])
   have elen:t'.length=t.length:=by
    unfold headL at ea
    exact four_inj (by omega) (by omega) (List.append_inj ea rfl).1
   have eall:=take_of (16 + t.length) (by omega) (by omega)
   rw [List.take_of_length_le (by rw [frame_len];omega),List.take_of_length_le (by rw [List.length_set,hlen];exact Nat.le_refl _)] at eall
   have hb1:(bodyL n t').length=(bodyL n t).length:=by rw [body_len,body_len,elen]
   by_cases pl:p < 12 + t.length
   ·have e3:frameL n t'=(bodyL n t).set p y ++ fourL (sumL (bodyL n t)):=by
     rw [eall];unfold frameL
     rw [List.set_append_left _ _ (by rw [body_len];exact pl)]
    obtain ⟨eb1,eb2⟩:=List.append_inj (show bodyL n t' ++ fourL (sumL (bodyL n t'))=_ from e3) (by rw [List.length_set,hb1])
    have es:=four_inj (sumL_lt _) (sumL_lt _) eb2
    rw [eb1] at es
    have pb:p < (bodyL n t).length:=by rw [body_len];exact pl
    have hxe:(bodyL n t)[p]'pb=x:=by
     rw [← hx];unfold frameL
     rw [List.getElem_append_left pb]
    have hs:=List.set_eq_take_append_cons_drop (l:=bodyL n t) (i:=p) (a:=y)
    rw [if_pos pb] at hs
    have ho:bodyL n t=(bodyL n t).take p ++ x :: (bodyL n t).drop (p + 1):=by
     conv=>lhs;rw [← List.take_append_drop p (bodyL n t)]
     rw [List.drop_eq_getElem_cons pb,hxe]
    rw [hs] at es
    have es2:sumL ((bodyL n t).take p ++ y :: (bodyL n t).drop (p + 1))=sumL ((bodyL n t).take p ++ x :: (bodyL n t).drop (p + 1)):=by rw [← ho];exact es
    exact hxy (sum_one _ _ es2.symm)
   ·have e3:frameL n t'=bodyL n t ++ (fourL (sumL (bodyL n t))).set (p - (bodyL n t).length) y:=by
     rw [eall];unfold frameL
     rw [List.set_append_right _ _ (by rw [body_len];omega)]
    obtain ⟨eb1,eb2⟩:=List.append_inj (show bodyL n t' ++ fourL (sumL (bodyL n t'))=_ from e3) hb1
    rw [eb1] at eb2
    have hxe:(fourL (sumL (bodyL n t)))[p - (bodyL n t).length]?=some x:=by
     rw [← hbit]
     unfold frameL
     rw [List.getElem?_append_right (by rw [body_len];omega)]
    have:=congrArg (fun l=>l[p - (bodyL n t).length]?) eb2
    simp only [hxe] at this
    rw [List.getElem?_set_self (by rw [four_len,body_len];omega)] at this
    exact hxy (Option.some.inj this)
theorem spoilt:∀ (l:List (List UInt8)) (n p:Nat) (y:UInt8),n + l.length≤100000→(∀ t ∈ l,t.length≤200)→p < totL l→(framesL n l)[p]? ≠ some y→Rd n ((framesL n l).set p y) (l.take (wholeK p l))
 | [],n,p,y,_,_,hp,_=>absurd hp (Nat.not_lt_zero _)
 | t :: l,n,p,y,hn,hl,hp,hne=>by
  have ht:=hl t (List.mem_cons_self ..)
  simp only [List.length_cons] at hn
  rw [tot_cons] at hp
  unfold wholeK
  have hfl:=frame_len n t
  by_cases hlt:16 + t.length≤p
  ·rw [if_pos hlt,List.take_succ_cons,framesL,List.set_append_right _ _ (by rw [hfl];exact hlt)]
   refine Rd.some ⟨ht,by omega,List.prefix_append ..⟩ ?_
   rw [show 16 + t.length=(frameL n t).length from hfl.symm,List.drop_left]
   refine spoilt l (n + 1) _ y (by omega) (fun x hx=>hl x (List.mem_cons_of_mem _ hx)) (by rw [hfl];omega) ?_
   rw [framesL,List.getElem?_append_right (by rw [hfl];exact hlt)] at hne
   exact hne
  ·rw [if_neg hlt,List.take_zero,framesL,List.set_append_left _ _ (by rw [hfl];omega)]
   refine Rd.none (spoilt_one n t _ p y (by omega) ht ?_)
   rw [framesL,List.getElem?_append_left (by rw [hfl];omega)] at hne
   exact hne
end Go.Proofs.YtbleojodidbhiaaGreatDoor
