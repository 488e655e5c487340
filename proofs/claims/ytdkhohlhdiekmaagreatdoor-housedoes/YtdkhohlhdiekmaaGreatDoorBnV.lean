/-  -/
import Derived.Test.YtdkhohlhdiekmaaGreatDoorBnA
import Derived.Laws.BitsAllLaws
namespace Go.Proofs.YtdkhohlhdiekmaaGreatDoor
open Go.RowKit
structure Pst where
 deb:ByteArray
 cre:ByteArray
 amt:Int
 deriving Inhabited
def pstC (p:Pst):List Value:=[.string p.deb,.string p.cre,.int .i64 p.amt]
def pstV (p:Pst):Value:=.agg #[.string p.deb,.string p.cre,.int .i64 p.amt]
theorem pstC_len (p:Pst):(pstC p).length=3:=rfl
def aGain:ByteArray:=⟨#[103,97,105,110]⟩
def aLate:ByteArray:=⟨#[108,97,116,101]⟩
def aLoss:ByteArray:=⟨#[108,111,115,115]⟩
def aSold:ByteArray:=⟨#[115,111,108,100]⟩
def aStock:ByteArray:=⟨#[115,116,111,99,107]⟩
def aSupply:ByteArray:=⟨#[115,117,112,112,108,121]⟩
def post1 (p:Pst):List Pst:=if 0 < p.amt then [p] else if p.amt < 0 then [⟨p.cre,p.deb,wrap64 (-p.amt)⟩] else []
def fives (f:Fig):List Pst:=[⟨aStock,aSupply,f.inn⟩,⟨aSold,aStock,f.out⟩,⟨aLoss,aStock,f.loss⟩,⟨aStock,aGain,f.gain⟩,⟨aLate,aSupply,f.late⟩]
def postL (f:Fig):List Pst:=(fives f).flatMap post1
theorem post1_len (p:Pst):(post1 p).length≤1:=by unfold post1;split <;> (try split) <;> simp
theorem postf_len:∀ l:List Pst,(l.flatMap post1).length≤l.length
 | []=>Nat.le_refl _
 | p :: l=>by
  rw [List.flatMap_cons,List.length_append,List.length_cons]
  have:=post1_len p
  have:=postf_len l
  omega
theorem postL_len (f:Fig):(postL f).length≤5:=postf_len (fives f)
end Go.Proofs.YtdkhohlhdiekmaaGreatDoor
namespace Go.Proofs.YtdkhohlhdiekmaaGreatDoor
def crT (c:Nat):Nat:=if c % 2=1 then (c / 2) ^^^ 3988292384 else c / 2
def crN:Nat→Nat→Nat
 | 0,c=>c
 | k + 1,c=>crT (crN k c)
def crB (c:Nat) (b:UInt8):Nat:=crN 8 (c ^^^ b.toNat)
def crL (l:List UInt8):Nat:=l.foldl crB 4294967295
def sumL (l:List UInt8):Nat:=4294967295 - crL l
theorem crT_lt {c:Nat} (h:c < 4294967296):crT c < 4294967296:=by
 unfold crT
 have h2:c / 2 < 2 ^ 32:=by omega
 split
 ·exact Nat.xor_lt_two_pow (n:=32) h2 (by omega)
 ·omega
theorem crN_lt {c:Nat} (h:c < 4294967296):∀ k,crN k c < 4294967296
 | 0=>h
 | k + 1=>crT_lt (crN_lt h k)
theorem byte_lt (b:UInt8):b.toNat < 256:=by have:=b.toNat_lt;omega
theorem xor_byte_lt {c:Nat} (h:c < 4294967296) (b:UInt8):c ^^^ b.toNat < 4294967296:=
 Nat.xor_lt_two_pow (n:=32) h (by have:=byte_lt b;omega)
theorem crB_lt {c:Nat} (h:c < 4294967296) (b:UInt8):crB c b < 4294967296:=crN_lt (xor_byte_lt h b) 8
theorem fold_lt:∀ (l:List UInt8) {c:Nat},c < 4294967296→l.foldl crB c < 4294967296
 | [],_,h=>h
 | b :: l,_,h=>fold_lt l (crB_lt h b)
theorem crL_lt (l:List UInt8):crL l < 4294967296:=fold_lt l (by omega)
theorem sumL_lt (l:List UInt8):sumL l < 4294967296:=by unfold sumL;omega
theorem crL_snoc (l:List UInt8) (b:UInt8):crL (l ++ [b])=crB (crL l) b:=by simp [crL,List.foldl_append]
def rfT (c:Nat) (b:UInt8) (k:Nat):Nat:=if (c ^^^ (b.toNat / 2 ^ k % 2)) % 2=1 then (c / 2) ^^^ 3988292384 else c / 2
def rfN (c:Nat) (b:UInt8):Nat→Nat
 | 0=>c
 | k + 1=>rfT (rfN c b k) b k
theorem xor_mod2 (a b:Nat):(a ^^^ b) % 2=(a % 2) ^^^ (b % 2):=by
 have:=Nat.xor_mod_two_pow (a:=a) (b:=b) (n:=1)
 simpa using this
theorem xor_div2 (a b:Nat):(a ^^^ b) / 2=(a / 2) ^^^ (b / 2):=by
 have:=Nat.xor_div_two_pow (a:=a) (b:=b) (n:=1)
 simpa using this
theorem rf_cr (c:Nat) (b:UInt8):∀ k,crN k (c ^^^ b.toNat)=rfN c b k ^^^ (b.toNat / 2 ^ k)
 | 0=>by simp [crN,rfN]
 | k + 1=>by
  have ih:=rf_cr c b k
  have e:b.toNat / 2 ^ (k + 1)=b.toNat / 2 ^ k / 2:=by rw [Nat.pow_succ,Nat.div_div_eq_div_mul]
  show crT (crN k (c ^^^ b.toNat))=rfT (rfN c b k) b k ^^^ _
  rw [ih,e]
  generalize rfN c b k=r
  unfold crT rfT
  generalize hB:b.toNat / 2 ^ k=B
  have hm:(r ^^^ B) % 2=(r ^^^ (B % 2)) % 2:=by rw [xor_mod2,xor_mod2 r (B % 2)];simp
  rw [hm]
  split
  ·rw [xor_div2];simp only [Nat.xor_assoc];rw [Nat.xor_comm (B / 2)]
  ·rw [xor_div2]
theorem rf_crB (c:Nat) (b:UInt8):rfN c b 8=crB c b:=by
 have:=rf_cr c b 8
 have hb:=byte_lt b
 have e:b.toNat / 2 ^ 8=0:=by omega
 rw [e,Nat.xor_zero] at this
 exact this.symm
theorem rfT_lt {c:Nat} (h:c < 4294967296) (b:UInt8) (k:Nat):rfT c b k < 4294967296:=by
 unfold rfT
 have h2:c / 2 < 2 ^ 32:=by omega
 split
 ·exact Nat.xor_lt_two_pow (n:=32) h2 (by omega)
 ·omega
theorem rfN_lt {c:Nat} (h:c < 4294967296) (b:UInt8):∀ k,rfN c b k < 4294967296
 | 0=>h
 | k + 1=>rfT_lt (rfN_lt h b k) b k
def fourL (n:Nat):List UInt8:=[(n % 256).toUInt8,(n / 256 % 256).toUInt8,(n / 65536 % 256).toUInt8,(n / 16777216 % 256).toUInt8]
theorem four_len (n:Nat):(fourL n).length=4:=rfl
def numL (l:List UInt8):Nat:=(l.getD 0 0).toNat + 256 * (l.getD 1 0).toNat + 65536 * (l.getD 2 0).toNat + 16777216 * (l.getD 3 0).toNat
theorem toU8 (n:Nat):((n % 256).toUInt8).toNat=n % 256:=by
 show (UInt8.ofNat (n % 256)).toNat=_
 rw [UInt8.toNat_ofNat']
 omega
theorem num_four (n:Nat) (r:List UInt8) (h:n < 4294967296):numL (fourL n ++ r)=n:=by
 have e0:=toU8 n
 have e1:=toU8 (n / 256)
 have e2:=toU8 (n / 65536)
 have e3:=toU8 (n / 16777216)
 simp only [numL,fourL,List.cons_append,List.nil_append,List.getD_cons_zero,List.getD_cons_succ,e0,e1,e2,e3]
 omega
theorem num_lt (l:List UInt8):numL l < 4294967296:=by
 unfold numL
 have h0:=byte_lt (l.getD 0 0)
 have h1:=byte_lt (l.getD 1 0)
 have h2:=byte_lt (l.getD 2 0)
 have h3:=byte_lt (l.getD 3 0)
 omega
def headL (n:Nat) (t:List UInt8):List UInt8:=fourL t.length ++ fourL n
def bodyL (n:Nat) (t:List UInt8):List UInt8:=headL n t ++ fourL (sumL (headL n t)) ++ t
def frameL (n:Nat) (t:List UInt8):List UInt8:=bodyL n t ++ fourL (sumL (bodyL n t))
theorem head_len (n:Nat) (t:List UInt8):(headL n t).length=8:=rfl
theorem body_len (n:Nat) (t:List UInt8):(bodyL n t).length=12 + t.length:=by simp [bodyL,head_len,four_len];omega
theorem frame_len (n:Nat) (t:List UInt8):(frameL n t).length=16 + t.length:=by simp [frameL,body_len,four_len];omega
theorem frame_num (n:Nat) (t r:List UInt8) (h:t.length < 4294967296):numL (frameL n t ++ r)=t.length:=by
 unfold frameL bodyL headL
 simp only [List.append_assoc]
 exact num_four _ _ h
theorem frame_line (n:Nat) (t r:List UInt8):((frameL n t ++ r).drop 12).take t.length=t:=by
 unfold frameL bodyL
 rw [List.append_assoc,List.append_assoc,List.drop_append_of_le_length (by simp [head_len,four_len])]
 rw [List.drop_of_length_le (by simp [head_len,four_len]),List.nil_append,List.take_left]
def Heads (n:Nat) (t r:List UInt8):Prop:=t.length≤200∧n≤100000∧frameL n t <+: r
theorem Heads.num {n:Nat} {t r:List UInt8} (h:Heads n t r):numL r=t.length:=by
 obtain ⟨h1,_,r',rfl⟩:=h
 exact frame_num _ _ _ (by omega)
theorem Heads.line {n:Nat} {t r:List UInt8} (h:Heads n t r):t=(r.drop 12).take (numL r):=by
 rw [h.num]
 obtain ⟨h1,_,r',rfl⟩:=h
 exact (frame_line _ _ _).symm
theorem Heads.same {n:Nat} {t t' r:List UInt8} (h:Heads n t r) (h':Heads n t' r):t=t':=by rw [h.line,← h'.line]
theorem Heads.len {n:Nat} {t r:List UInt8} (h:Heads n t r):16 + t.length≤r.length:=by
 have:=h.2.2.length_le
 rw [frame_len] at this;exact this
inductive Rd:Nat→List UInt8→List (List UInt8)→Prop
 | none {n r} (h:∀ t,¬ Heads n t r):Rd n r []
 | some {n r t ls} (h:Heads n t r) (k:Rd (n + 1) (r.drop (16 + t.length)) ls):Rd n r (t :: ls)
theorem Rd.same {n:Nat} {r:List UInt8} {a b:List (List UInt8)} (h:Rd n r a) (h':Rd n r b):a=b:=by
 induction h generalizing b with
 | none h=>cases h' with
  | none _=>rfl
  | some k _=>exact absurd k (h _)
 | some h _ ih=>cases h' with
  | none k=>exact absurd h (k _)
  | some k j=>
   obtain rfl:=h.same k
   rw [ih j]
def totL (l:List (List UInt8)):Nat:=(l.map fun t=>16 + t.length).sum
theorem tot_snoc (l:List (List UInt8)) (t:List UInt8):totL (l ++ [t])=totL l + (16 + t.length):=by simp [totL]
theorem tot_cons (t:List UInt8) (l:List (List UInt8)):totL (t :: l)=16 + t.length + totL l:=by simp [totL]
def Sofar (s:List UInt8) (ds:List (List UInt8)):Prop:=totL ds≤s.length∧ds.length≤100001∧(∀ t ∈ ds,t.length≤200)∧∀ ls,Rd ds.length (s.drop (totL ds)) ls→Rd 0 s (ds ++ ls)
theorem Sofar.nil (s:List UInt8):Sofar s []:=⟨Nat.zero_le _,by simp,by simp,fun ls h=>h⟩
theorem Sofar.step {s:List UInt8} {ds:List (List UInt8)} (h:Sofar s ds) {t:List UInt8} (k:Heads ds.length t (s.drop (totL ds))):Sofar s (ds ++ [t]):=by
 have hl:=k.len
 rw [List.length_drop] at hl
 have h1:=h.1
 refine ⟨by rw [tot_snoc];omega,?_,?_,fun ls j=>?_⟩
 ·have:=k.2.1
  rw [List.length_append];simp;omega
 ·intro x hx
  rcases List.mem_append.1 hx with hx | hx
  ·exact h.2.2.1 x hx
  ·rw [List.mem_singleton] at hx;subst hx;exact k.1
 ·rw [List.append_assoc]
  refine h.2.2.2 _ ?_
  refine Rd.some k ?_
  rw [List.drop_drop,← tot_snoc]
  rw [List.length_append] at j
  exact j
theorem Sofar.done {s:List UInt8} {ds:List (List UInt8)} (h:Sofar s ds) (k:∀ t,¬ Heads ds.length t (s.drop (totL ds))):Rd 0 s ds:=by
 have:=h.2.2.2 [] (Rd.none k)
 rwa [List.append_nil] at this
def framesL:Nat→List (List UInt8)→List UInt8
 | _,[]=>[]
 | n,t :: l=>frameL n t ++ framesL (n + 1) l
theorem frames_len:∀ (n:Nat) (l:List (List UInt8)),(framesL n l).length=totL l
 | _,[]=>rfl
 | n,t :: l=>by rw [framesL,List.length_append,frame_len,frames_len,tot_cons]
theorem frames_snoc:∀ (n:Nat) (l:List (List UInt8)) (t:List UInt8),framesL n (l ++ [t])=framesL n l ++ frameL (n + l.length) t
 | n,[],t=>by simp [framesL]
 | n,x :: l,t=>by
  rw [List.cons_append,framesL,frames_snoc (n + 1) l t,framesL,List.append_assoc]
  have:n + 1 + l.length=n + (x :: l).length:=by simp;omega
  rw [this]
theorem not_heads_short {n:Nat} {r:List UInt8} (h:r.length < 16):∀ t,¬ Heads n t r:=fun t k=>by have:=k.len;omega
end Go.Proofs.YtdkhohlhdiekmaaGreatDoor
