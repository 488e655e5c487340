/-  -/
import Derived.Test.YtbleojodidbhiaaGreatDoorBnDay
import Derived.Lib.AtoiAll
import Derived.Lib.SplitLaws
import Derived.Lib.ItoaNum
import Derived.Lib.CountLaws
import Derived.Test.YtbleojodidbhiaaGreatDoorBnMon
import Derived.Test.YtbleojodidbhiaaGreatDoorBnA
import Derived.Test.YtbleojodidbhiaaGreatDoorBnDayW
import Derived.Test.YtbleojodidbhiaaGreatDoorBnShelf
import Derived.Laws.RangeString
import Derived.Lib.AppendIntMem
import Derived.Lib.SmallJoins
import Derived.Lib.LaidTab
namespace Go.Proofs.YtbleojodidbhiaaGreatDoor
def Digs (l:List UInt8):Prop:=∀ c ∈ l,48≤c.toNat∧c.toNat≤57
def dnf (acc:Nat) (l:List UInt8):Nat:=l.foldl (fun a c=>a * 10 + (c.toNat - 48)) acc
theorem dnf_ge:∀ (l:List UInt8) (acc:Nat),acc≤dnf acc l
 | [],acc=>Nat.le_refl _
 | c :: l,acc=>by
  have:=dnf_ge l (acc * 10 + (c.toNat - 48))
  show acc≤dnf (acc * 10 + (c.toNat - 48)) l
  omega
theorem dnf_dval:∀ (l:List UInt8) (acc:Nat),Digs l→l.foldl dval1 (acc:Int)=(dnf acc l:Int)
 | [],acc,_=>rfl
 | c :: l,acc,h=>by
  have hc:=h c List.mem_cons_self
  have e:dval1 (acc:Int) c=((acc * 10 + (c.toNat - 48):Nat):Int):=by unfold dval1;omega
  rw [List.foldl_cons,e,dnf_dval l _ (fun x hx=>h x (List.mem_cons_of_mem _ hx))]
  rfl
theorem dparse_digits:∀ (l:List UInt8) (acc:Nat),Digs l→dnf acc l < 18446744073709551616→Lib.parseUint10 acc l = .ok (dnf acc l)
 | [],acc,_,_=>rfl
 | c :: l,acc,h,hlt=>by
  have hc:=h c List.mem_cons_self
  have hge:=dnf_ge l (acc * 10 + (c.toNat - 48))
  have e:dnf acc (c :: l)=dnf (acc * 10 + (c.toNat - 48)) l:=rfl
  rw [e] at hlt ⊢
  unfold Lib.parseUint10
  rw [if_pos hc,if_neg (by omega),if_neg (by omega)]
  exact dparse_digits l _ (fun x hx=>h x (List.mem_cons_of_mem _ hx)) hlt
theorem atoi_digs (l:List UInt8) (h:Digs l) (hne:l ≠ []) (hu:dval l≤9223372036854775807):Lib.atoiAll l = .ok (dval l):=by
 have hn:dval l=(dnf 0 l:Int):=dnf_dval l 0 h
 have hp:Lib.parseMag l = .ok (dnf 0 l):=by
  unfold Lib.parseMag;rw [if_neg hne,dparse_digits l 0 h (by omega)]
 rcases l with _ | ⟨c,r⟩
 ·exact absurd rfl hne
 ·have hc:=h c List.mem_cons_self
  unfold Lib.atoiAll
  simp only []
  rw [if_neg (by omega),hp]
  simp only []
  rw [if_neg (by omega),if_neg (by omega),if_neg (by omega),hn]
theorem index_at (z:UInt8):∀ (a b:List UInt8),z ∉ a→Lib.index (a ++ z :: b) [z]=(a.length:Int)
 | [],b,_=>by simp [Lib.index]
 | x :: a,b,h=>by
  have hx:¬ z=x:=by intro e;apply h;rw [e];exact List.mem_cons_self
  have ih:=index_at z a b (fun hm=>h (List.mem_cons_of_mem _ hm))
  have hp:([z]:List UInt8).isPrefixOf (x :: (a ++ z :: b))=false:=by simp [List.isPrefixOf,hx]
  rw [List.cons_append,Lib.index,hp,ih]
  have hne:((a.length:Int) == -1)=false:=by simp
  rw [hne]
  simp
theorem index_not (z:UInt8):∀ (a:List UInt8),z ∉ a→Lib.index a [z] = -1
 | [],_=>by simp [Lib.index]
 | x :: a,h=>by
  have hx:¬ z=x:=by intro e;apply h;rw [e];exact List.mem_cons_self
  have ih:=index_not z a (fun hm=>h (List.mem_cons_of_mem _ hm))
  have hp:([z]:List UInt8).isPrefixOf (x :: a)=false:=by simp [List.isPrefixOf,hx]
  rw [Lib.index,hp,ih]
  simp
theorem count_at (z:UInt8) (a b:List UInt8) (h:z ∉ a):Lib.count (a ++ z :: b) [z]=1 + Lib.count b [z]:=by
 rw [Lib.count_hit (by simp) (index_at z a b h)]
 simp
theorem split_at (z:UInt8) (k:Nat) (a b:List UInt8) (h:z ∉ a):Lib.splitK [z] 0 (k + 1) (a ++ z :: b)=a :: Lib.splitK [z] 0 k b:=by
 rw [Lib.splitK,index_at z a b h]
 have hne:((a.length:Int) == -1)=false:=by simp
 rw [hne]
 simp
theorem split_three (z:UInt8) (a b c:List UInt8) (ha:z ∉ a) (hb:z ∉ b) (hc:z ∉ c) :
  Lib.count (a ++ z :: (b ++ z :: c)) [z]=2∧Lib.splitK [z] 0 2 (a ++ z :: (b ++ z :: c))=[a,b,c]:=by
 constructor
 ·rw [count_at z a _ ha,count_at z b _ hb,Lib.count_miss (index_not z c hc)]
 ·rw [split_at z 1 a _ ha,split_at z 0 b _ hb];rfl
theorem piece_le (sep:List UInt8):∀ (k:Nat) (s p:List UInt8),p ∈ Lib.splitK sep 0 k s→p.length≤s.length
 | 0,s,p,h=>by simp [Lib.splitK] at h;rw [h];exact Nat.le_refl _
 | k + 1,s,p,h=>by
  rw [Lib.splitK] at h
  split at h
  ·simp at h;rw [h];exact Nat.le_refl _
  ·rcases List.mem_cons.1 h with h | h
   ·rw [h,List.length_take];omega
   ·have:=piece_le sep k _ p h
    rw [List.length_drop] at this;omega
theorem dec_step (n:Nat) (h:10≤n):Lib.decDigits n=Lib.decDigits (n / 10) ++ [UInt8.ofNat (48 + n % 10)]:=by
 rw [Lib.decDigits,dif_neg (by omega)]
theorem dec_one (n:Nat) (h:n < 10):Lib.decDigits n=[UInt8.ofNat (48 + n)]:=by
 rw [Lib.decDigits,dif_pos h]
theorem itoa_nat (n:Nat):Lib.itoa (n:Int)=Lib.decDigits n:=by unfold Lib.itoa;rw [if_neg (by omega)];rfl
theorem dec_four (n:Nat) (h:1000≤n) (h':n < 10000):Lib.decDigits n=bts (tw ((n:Int) / 100) ++ tw ((n:Int) % 100)):=by
 rw [dec_step n (by omega),dec_step (n / 10) (by omega),dec_step (n / 10 / 10) (by omega),dec_one (n / 10 / 10 / 10) (by omega)]
 simp only [bts,tw,List.map,List.cons_append,List.nil_append]
 congr 1
 ·congr 1;omega
 congr 1
 ·congr 1;omega
 congr 1
 ·congr 1;omega
 congr 1
 ·congr 1;omega
theorem dec_hundred (n:Nat) (h:n < 100):Lib.decDigits (100 + n)=49 :: bts (tw (n:Int)):=by
 rw [dec_step (100 + n) (by omega),dec_step ((100 + n) / 10) (by omega),dec_one ((100 + n) / 10 / 10) (by omega)]
 simp only [bts,tw,List.map,List.cons_append,List.nil_append]
 have e:(100 + n) / 10 / 10=1:=by omega
 rw [e]
 congr 1
 congr 1
 ·congr 1;omega
 congr 1
 ·congr 1;omega
theorem tw_digs (n:Int) (h:0≤n) (h':n < 100):Digs (bts (tw n)):=by
 have e1:=byte_val (48 + n / 10) (by omega) (by omega)
 have e2:=byte_val (48 + n % 10) (by omega) (by omega)
 intro c hc
 simp only [bts,tw,List.map,List.mem_cons,List.not_mem_nil,or_false] at hc
 rcases hc with rfl | rfl
 ·omega
 ·omega
theorem digs_append {a b:List UInt8} (ha:Digs a) (hb:Digs b):Digs (a ++ b):=fun c hc=>by
 rcases List.mem_append.1 hc with h | h
 ·exact ha c h
 ·exact hb c h
theorem digs_not {a:List UInt8} (h:Digs a) (z:UInt8) (hz:z.toNat < 48):z ∉ a:=fun hm=>by
 have:=h z hm;omega
theorem bts_app (a b:List Int):bts (a ++ b)=bts a ++ bts b:=by simp [bts]
theorem bts_con (a:Int) (b:List Int):bts (a :: b)=UInt8.ofNat a.toNat :: bts b:=rfl
theorem DT_parts (y m d:Int):bts (dtx y m d)=bts (tw (y / 100) ++ tw (y % 100)) ++ 45 :: (bts (tw m) ++ 45 :: bts (tw d)):=by
 unfold dtx
 simp only [bts_app,bts_con,List.append_assoc]
 rfl
def wordOf (k:Int):List UInt8:=
 if k=1 then [105,110] else if k=2 then [99,104,97,114,103,101] else if k=3 then [111,117,116] else if k=4 then [99,111,117,110,116] else []
def nums (k q p o:Int):List UInt8:=
 if k=1 then Lib.itoa q ++ 32 :: ([97,116] ++ 32 :: byt (amt p)) else if k=2 then byt (amt p) ++ 32 :: ([102,111,114] ++ 32 :: Lib.itoa o) else Lib.itoa q
def ET (e:Ev):List UInt8:=bts (DT e.day) ++ 32 :: (wordOf e.kind ++ 32 :: (e.item.data.toList ++ 32 :: nums e.kind e.qty e.price e.ofI))
def kindOf (l:List UInt8):Int:=
 if l=[105,110] then 1 else if l=[99,104,97,114,103,101] then 2 else if l=[111,117,116] then 3 else if l=[99,111,117,110,116] then 4 else 0
def numOf (l:List UInt8):Int:=match Lib.atoiAll l with
 | .ok v=>v
 | _=>-1
def amtOf (l:List UInt8):Int:=(parsed l).getD (-1)
def dayOf (l:List UInt8):Int:=(dparsed l).getD (-1)
def eb (l:List UInt8):ByteArray:=⟨l.toArray⟩
def pread (ps:List (List UInt8)):Ev:=
 {id:=0,day:=dayOf (ps.getD 0 []),kind:=kindOf (ps.getD 1 []),item:=eb (ps.getD 2 []),
  qty:=if kindOf (ps.getD 1 [])=2 then 0 else numOf (ps.getD 3 []),
  price:=if kindOf (ps.getD 1 [])=1 then amtOf (ps.getD 5 []) else if kindOf (ps.getD 1 [])=2 then amtOf (ps.getD 3 []) else 0,
  ofI:=if kindOf (ps.getD 1 [])=2 then numOf (ps.getD 5 []) else 0 }
def ps (l:List UInt8):List (List UInt8):=Lib.splitK [32] 0 (Lib.count l [32]) l
theorem ps_at (a b:List UInt8) (h:32 ∉ a):ps (a ++ 32 :: b)=a :: ps b:=by
 unfold ps
 rw [count_at 32 a b h,Nat.add_comm,split_at 32 _ a b h]
theorem ps_end (a:List UInt8) (h:32 ∉ a):ps a=[a]:=by
 unfold ps
 rw [Lib.count_miss (index_not 32 a h)];rfl
theorem dec_all:∀ (m n:Nat),n≤m→Digs (Lib.decDigits n)∧dval (Lib.decDigits n)=(n:Int)∧Lib.decDigits n ≠ []
 | m,n,h=>by
  by_cases hn:n < 10
  ·rw [dec_one n hn]
   have e:(UInt8.ofNat (48 + n)).toNat=48 + n:=by rw [UInt8.toNat_ofNat'];omega
   refine ⟨?_,?_,by simp⟩
   ·intro c hc
    rw [List.mem_singleton] at hc
    subst hc;omega
   ·simp only [dval,List.foldl,dval1];rw [e];omega
  ·match m,h with
   | 0,h=>omega
   | m + 1,h=>
    obtain ⟨a,b,_⟩:=dec_all m (n / 10) (by omega)
    have e:(UInt8.ofNat (48 + n % 10)).toNat=48 + n % 10:=by rw [UInt8.toNat_ofNat'];omega
    rw [dec_step n (by omega)]
    refine ⟨digs_append a ?_,?_,by simp⟩
    ·intro c hc
     rw [List.mem_singleton] at hc
     subst hc;omega
    ·rw [dval_snoc,b];unfold dval1;rw [e];omega
theorem itoa_pos (n:Int) (h:0≤n):Lib.itoa n=Lib.decDigits n.toNat:=by
 obtain ⟨k,rfl⟩:∃ k:Nat,n=(k:Int):=⟨n.toNat,by omega⟩
 rw [itoa_nat];rfl
theorem itoa_digs (n:Int) (h:0≤n):Digs (Lib.itoa n):=by rw [itoa_pos n h];exact (dec_all _ _ (Nat.le_refl _)).1
theorem atoi_itoa (n:Int) (h:0≤n) (h':n≤9223372036854775807):Lib.atoiAll (Lib.itoa n) = .ok n:=by
 obtain ⟨a,b,c⟩:=dec_all _ n.toNat (Nat.le_refl _)
 have e:((n.toNat:Nat):Int)=n:=by omega
 rw [e] at b
 rw [itoa_pos n h,atoi_digs _ a c (by rw [b];exact h'),b]
theorem numOf_itoa (n:Int) (h:0≤n) (h':n≤9223372036854775807):numOf (Lib.itoa n)=n:=by
 unfold numOf;rw [atoi_itoa n h h']
theorem itoa_nb (n:Int) (h:0≤n):32 ∉ Lib.itoa n:=digs_not (itoa_digs n h) 32 (by decide)
theorem dg_digs:∀ (k q:Nat),Digs (byt (dg k (q:Int)))
 | 0,q=>by intro c hc;simp [dg,byt] at hc
 | k + 1,q=>by
  have e:48 + dv k (q:Int) % 10=48 + ((q / 10 ^ k % 10:Nat):Int):=by rw [dv_nat];omega
  have hd:=dig_nat (q / 10 ^ k % 10) (Nat.mod_lt _ (by omega))
  intro c hc
  simp only [dg] at hc
  rw [byt_cons,e] at hc
  rcases List.mem_cons.1 hc with rfl | hc
  ·omega
  ·exact dg_digs k q c hc
theorem amt_nb (n:Int) (h:0≤n):32 ∉ byt (amt n):=by
 unfold amt amtSize
 rw [if_neg (by omega),List.nil_append,byt_append,byt_cons]
 intro hm
 rcases List.mem_append.1 hm with hm | hm
 ·exact digs_not (dg_digs _ _) 32 (by decide) hm
 ·rcases List.mem_cons.1 hm with hm | hm
  ·exact absurd hm (by decide)
  ·exact digs_not (dg_digs _ _) 32 (by decide) hm
theorem DT_nb (n:Int) (h0:0≤n) (h1:n≤99999):32 ∉ bts (DT n):=by
 have hk:=dK_le h0 h1
 have hy:1900≤ky (dK n)∧ky (dK n)≤2200:=⟨ky_ge _,by unfold ky;omega⟩
 have hm:=km_bd (dK n)
 have hd:=dD_bd h0
 have e:bts (DT n)=bts (tw (ky (dK n) / 100) ++ tw (ky (dK n) % 100)) ++ 45 :: (bts (tw (km (dK n))) ++ 45 :: bts (tw (dD n))):=DT_parts _ _ _
 have dy:Digs (bts (tw (ky (dK n) / 100) ++ tw (ky (dK n) % 100))):=by
  rw [bts_app];exact digs_append (tw_digs _ (by omega) (by omega)) (tw_digs _ (by omega) (by omega))
 have dm:=tw_digs (km (dK n)) (by omega) (by omega)
 have dd:=tw_digs (dD n) (by omega) (by omega)
 rw [e]
 intro hh
 rcases List.mem_append.1 hh with hh | hh
 ·exact digs_not dy 32 (by decide) hh
 rcases List.mem_cons.1 hh with hh | hh
 ·exact absurd hh (by decide)
 rcases List.mem_append.1 hh with hh | hh
 ·exact digs_not dm 32 (by decide) hh
 rcases List.mem_cons.1 hh with hh | hh
 ·exact absurd hh (by decide)
 ·exact digs_not dd 32 (by decide) hh
theorem name_nb {l:List UInt8} (h:isName l):32 ∉ l:=by
 intro hm
 have h32:(32:UInt8).toNat=32:=rfl
 rcases h.2.2 32 hm with h | h
 ·have:=h.1;omega
 ·have:=h.1;omega
theorem word_nb (k:Int):32 ∉ wordOf k:=by
 unfold wordOf
 split
 ·decide
 split
 ·decide
 split
 ·decide
 split
 ·decide
 ·decide
theorem ps_ET (e:Ev) (h:Rt e):ps (ET e)=bts (DT e.day) :: wordOf e.kind :: e.item.data.toList :: ps (nums e.kind e.qty e.price e.ofI):=by
 unfold ET
 rw [ps_at _ _ (DT_nb _ h.2.1.1 h.2.1.2),ps_at _ _ (word_nb _),ps_at _ _ (name_nb h.1)]
theorem ps_nums {k q p o:Int} (h:rtK k q p o):ps (nums k q p o)=if k=1 then [Lib.itoa q,[97,116],byt (amt p)] else if k=2 then [byt (amt p),[102,111,114],Lib.itoa o] else [Lib.itoa q]:=by
 unfold nums
 rcases h with ⟨rfl,⟨a,b⟩,⟨c,d⟩,rfl⟩ | ⟨rfl,rfl,⟨c,d⟩,⟨f,g⟩⟩ | ⟨rfl,⟨a,b⟩,rfl,rfl⟩ | ⟨rfl,⟨a,b⟩,rfl,rfl⟩
 ·rw [if_pos rfl,if_pos rfl,ps_at _ _ (itoa_nb _ (by omega)),ps_at _ _ (by decide),ps_end _ (amt_nb _ c)]
 ·rw [if_neg (by decide),if_pos rfl,if_neg (by decide),if_pos rfl,ps_at _ _ (amt_nb _ (by omega)),ps_at _ _ (by decide),ps_end _ (itoa_nb _ (by omega))]
 ·rw [if_neg (by decide),if_neg (by decide),if_neg (by decide),if_neg (by decide),ps_end _ (itoa_nb _ (by omega))]
 ·rw [if_neg (by decide),if_neg (by decide),if_neg (by decide),if_neg (by decide),ps_end _ (itoa_nb _ (by omega))]
theorem kindOf_word {k:Int} (h:k=1∨k=2∨k=3∨k=4):kindOf (wordOf k)=k:=by
 rcases h with rfl | rfl | rfl | rfl <;> rfl
theorem rtK_kind {k q p o:Int} (h:rtK k q p o):k=1∨k=2∨k=3∨k=4:=by
 rcases h with ⟨rfl,_⟩ | ⟨rfl,_⟩ | ⟨rfl,_⟩ | ⟨rfl,_⟩ <;> simp
theorem eb_data (b:ByteArray):eb b.data.toList=b:=by cases b;rfl
theorem pread_ET (e:Ev) (h:Rt e):pread (ps (ET e))={ e with id:=0 }:=by
 rw [ps_ET e h,ps_nums h.2.2]
 obtain ⟨hn,⟨d0,d1⟩,hk⟩:=h
 obtain ⟨id,item,kind,qty,price,ofI,day⟩:=e
 simp only at hn d0 d1 hk ⊢
 have hd:dayOf (bts (DT day))=day:=by unfold dayOf;rw [dparsed_DT d0 d1];rfl
 have hw:=kindOf_word (rtK_kind hk)
 have hp:0≤price→price≤100000000000→amtOf (byt (amt price))=price:=by
  intro a b;unfold amtOf;rw [parsed_amt price (by omega) (by omega)];rfl
 rcases hk with ⟨rfl,⟨a,b⟩,⟨c,d⟩,rfl⟩ | ⟨rfl,rfl,⟨c,d⟩,⟨f,g⟩⟩ | ⟨rfl,⟨a,b⟩,rfl,rfl⟩ | ⟨rfl,⟨a,b⟩,rfl,rfl⟩
 ·simp [pread,hd,hw,eb_data,numOf_itoa qty (by omega) (by omega),hp c (by omega)]
 ·simp [pread,hd,hw,eb_data,numOf_itoa ofI (by omega) (by omega),hp (by omega) (by omega)]
 ·simp [pread,hd,hw,eb_data,numOf_itoa qty (by omega) (by omega)]
 ·simp [pread,hd,hw,eb_data,numOf_itoa qty (by omega) (by omega)]
def Reads (l:List UInt8) (e:Ev):Prop:=Rt e∧e.id=0∧ET e=l
theorem reads_pread {l:List UInt8} {e:Ev} (h:Reads l e):pread (ps l)=e:=by
 obtain ⟨h1,h2,rfl⟩:=h
 rw [pread_ET e h1]
 obtain ⟨id,item,kind,qty,price,ofI,day⟩:=e
 simp only at h2
 rw [h2]
theorem reads_or (l:List UInt8):(∃ e,Reads l e)∨∀ e,¬ Reads l e:=by
 rcases Classical.em (∃ e,Reads l e) with h | h
 ·exact .inl h
 ·exact .inr fun e he=>h ⟨e,he⟩
end Go.Proofs.YtbleojodidbhiaaGreatDoor
namespace Go.Proofs.YtbleojodidbhiaaGreatDoor
open Go.RowKit
structure GlobN (w:World):Prop where
 tab:Lib.TabIs Tryz.prog w "internal/strconv.uint64pow10" .u64 Lib.pow10Tab
 syn:∃ tp p,w.var? Tryz.prog "strconv.ErrSyntax" = some #[.iface tp p]
 rng:∃ tp p,w.var? Tryz.prog "strconv.ErrRange" = some #[.iface tp p]
 ml:∃ m,w.cell? ⟨2,0,none⟩=some (.int .i64 m)
theorem Tryz.gTabN:Tryz.prog.globalNamed "internal/strconv.uint64pow10" = some 4:=by kernel_rfl
theorem Tryz.gSynN:Tryz.prog.globalNamed "strconv.ErrSyntax" = some 11:=by kernel_rfl
theorem Tryz.gRngN:Tryz.prog.globalNamed "strconv.ErrRange" = some 12:=by kernel_rfl
theorem varN_lt {P:Program} {w:World} {n:String} {g:Nat} {cs:Array Value} (hg:P.globalNamed n=some g) (hv:w.var? P n=some cs):g < w.heap.size:=by
 unfold World.var? at hv
 simp only [hg,Option.bind_some] at hv
 rcases Nat.lt_or_ge g w.heap.size with h | h
 ·exact h
 ·simp [Array.getElem?_eq_none h] at hv
theorem GlobN.below {w w':World} (h:GlobN w) (hb:Below w.heap.size w w'):GlobN w':=by
 obtain ⟨tab,⟨tp,p,syn⟩,⟨tq,q,rng⟩,⟨m,ml⟩⟩:=h
 refine ⟨var?_below hb Tryz.gTabN (varN_lt Tryz.gTabN tab) tab,⟨tp,p,var?_below hb Tryz.gSynN (varN_lt Tryz.gSynN syn) syn⟩,⟨tq,q,var?_below hb Tryz.gRngN (varN_lt Tryz.gRngN rng) rng⟩,⟨m,?_⟩⟩
 rw [hb.cell (p:=⟨2,0,none⟩) (World.block_lt_of_cell? _ _ ml)];exact ml
theorem itoaN (n:Int) (w:World) (hg:GlobN w) (h0 : -9223372036854775808≤n) (h1:n≤9223372036854775807) :
  Calls Tryz.prog 18 #[.int .i64 n] w fun e w'=>e = .returned (.string (eb (Lib.itoa n)))∧Below w.heap.size w w':=by
 refine (Tryz.strconv_Itoa n h0 h1 w hg.tab).mono fun e w' ⟨he,n1,os1,hw⟩=>⟨he,?_⟩
 exact hw ▸ Lib.below_grow _ _ (Nat.le_refl _) _ _
theorem atoiN (s:ByteArray) (w:World) (hg:GlobN w) (hs:s.size≤281474976710656) :
  Calls Tryz.prog 163 #[.string s] w fun e w'=>
   ((∃ v,Lib.atoiAll s.data.toList = .ok v∧e = .returned (.tuple #[.int .i64 v,.nilIface]))∨(∃ (x:Int) (tq:TypeId) (q:Value),(∀ v,Lib.atoiAll s.data.toList ≠ .ok v)∧e = .returned (.tuple #[.int .i64 x,.iface tq q])))∧Below w.heap.size w w':=by
 obtain ⟨tp,p,hsyn⟩:=hg.syn
 obtain ⟨tr,r,hrng⟩:=hg.rng
 rcases h:Lib.atoiAll s.data.toList with v | _ | _
 ·refine (Tryz.strconv_Atoi_ok s (by omega) v h w).mono fun e w' ⟨he,hw⟩=>?_
  refine ⟨.inl ⟨v,rfl,he⟩,?_⟩
  rcases hw with rfl | ⟨t,rfl⟩
  ·exact Below.refl _ _
  ·exact Go.Joins.below_bytesWorld _ _ _ _ (Nat.le_refl _)
 ·refine (Any.strconv_Atoi_syntax_var Tryz.laysC172 s hs h tp p w hsyn).mono fun e w' ⟨N,he,_,_,hb⟩=>?_
  exact ⟨.inr ⟨0,_,_,fun v hv=>(by cases hv),he⟩,hb⟩
 ·refine (Tryz.strconv_Atoi_range_var s hs h tr r w hrng).mono fun e w' ⟨N,he,_,_,hb⟩=>?_
  exact ⟨.inr ⟨_,_,_,fun v hv=>(by cases hv),he⟩,hb⟩
theorem hidN {p:Prop} (h:p):Hid p:=h
def parts (s:ByteArray):List ByteArray:=Lib.splitB ⟨#[32]⟩ 0 (Lib.countB s ⟨#[32]⟩) s
theorem parts_len (s:ByteArray):(parts s).length=Lib.countB s ⟨#[32]⟩ + 1:=Lib.splitB_all ⟨#[32]⟩ (by decide) 0 _ s rfl
theorem parts_ps (s:ByteArray):(parts s).map (fun b=>b.data.toList)=ps s.data.toList:=Lib.splitB_data ⟨#[32]⟩ 0 _ s
theorem parts_few (s:ByteArray):(parts s).length≤s.size + 2:=by
 have hle:Lib.countB s ⟨#[32]⟩≤s.data.toList.length + 1:=Lib.count_le _ _
 rw [dba_len] at hle
 rw [parts_len];omega
theorem parts_size (s x:ByteArray) (h:x ∈ parts s):x.size≤s.size:=by
 have hm:x.data.toList ∈ Lib.splitK [32] 0 (Lib.count s.data.toList [32]) s.data.toList:=by
  have:ps s.data.toList=Lib.splitK [32] 0 (Lib.count s.data.toList [32]) s.data.toList:=rfl
  rw [← this,← parts_ps s];exact List.mem_map.2 ⟨x,h,rfl⟩
 have:=piece_le [32] _ _ _ hm
 rw [dba_len,dba_len] at this;exact this
theorem splitN (s:ByteArray) (w:World) (hg:GlobN w) (hs:s.size≤1000) :
  Calls Tryz.prog 16 #[.string s,.string ⟨#[32]⟩] w fun e w'=>e = .returned (.slice (some ⟨w.heap.size,0,none⟩) (parts s).length (parts s).length)∧w'=w.alloc (.cells ((parts s).map Value.string).toArray 9):=by
 obtain ⟨m,hm⟩:=hg.ml
 have h:=Tryz.strings_Split s ⟨#[32]⟩ m w (by omega) hm (by decide)
 rw [parts_len]
 exact h
def strData {H:Type} (zs:List (List UInt8)):DataW H:=.agg (zs.map fun z=>.lit (.string z))
theorem cells_of_strs {H:Type} {enc:TypeId × Value→H} {P:Program} {w:World} {base:Nat} {sp:Nat→Bool} {held:Bool} {fuel:Nat} {t e:TypeId} {n:Nat} {cs:List Value} {zs:List (List UInt8)} {p:List MemPlace}
  (ht:P.underlying t=some (.array n e)) (he:P.underlying e=some .string) (hce:P.cellsOf e=1) (hct:P.cellsOf t=n)
  (h:DataW.trod enc P w base sp held fuel t cs=some (strData zs,p)):cs=zs.map fun z=>Value.string (eb z):=by
 cases fuel with
 | zero=>simp [DataW.trod] at h
 | succ fuel=>
  simp only [DataW.trod,ht,hce,hct,Nat.mul_one] at h
  split at h
  ·rename_i hl
   obtain ⟨xs,hm,hx⟩:=Option.map_eq_some_iff.1 h
   have hxs:xs.map (·.1)=zs.map fun z=>(DataW.lit (.string z):DataW H):=by
    have:=congrArg Prod.fst hx
    simpa [strData] using this
   have hxl:xs.length=n:=by simpa using Lib.mapM_length hm
   have hzl:zs.length=n:=by
    have:=congrArg List.length hxs
    simp at this
    omega
   apply List.ext_getElem?
   intro i
   by_cases hi:i < n
   ·obtain ⟨b,hb,hf⟩:=Lib.mapM_at hm i i (by simp [hi])
    obtain ⟨z,hc,rfl,_⟩:=DataW.trod_string he hf
    have h1:cs[i]?=some (.string z):=by
     have:=congrArg (·[0]?) hc
     simpa [List.getElem?_take,List.getElem?_drop] using this
    have h2:(xs.map (·.1))[i]?=some (DataW.lit (.string z.data.toList):DataW H):=by simp [hb]
    rw [hxs] at h2
    simp only [List.getElem?_map,Option.map_eq_some_iff,DataW.lit.injEq,Lit.string.injEq] at h2
    obtain ⟨z',hz',rfl⟩:=h2
    simp [h1,hz',eb_data]
   ·rw [List.getElem?_eq_none (by omega),List.getElem?_eq_none (by simp;omega)]
  ·cases h
theorem strs_of_head {P:Program} {W:World} {name:String} {zs:List (List UInt8)} {rest:List (String × DataW Unit)} {g:Nat} {t e:TypeId} {n:Nat}
  (hg:P.globalNamed name=some g) (hty:(P.globals[g]?).map (·.type)=some t) (ht:P.underlying t=some (.array n e)) (he:P.underlying e=some .string) (hce:P.cellsOf e=1) (hct:P.cellsOf t=n)
  (h:laidMet P ((name,strData zs) :: rest) W):W.var? P name=some (zs.map fun z=>Value.string (eb z)).toArray:=by
 obtain ⟨ps,⟨g',t',cs,fuel,p,q,hg',ht',hvar,hd,_,_⟩,_⟩:=h
 obtain rfl:=Option.some.inj (hg.symm.trans hg')
 obtain rfl:=Option.some.inj (hty.symm.trans ht')
 rw [hvar,← cells_of_strs ht he hce hct hd]
theorem gWords:Tryz.prog.globalNamed "tallyman/event.words" = some 3:=by kernel_rfl
theorem wordsType:(Tryz.prog.globals[3]?).map (·.type)=some 239:=by kernel_rfl
def WordTab (w:World):Prop:=∀ k:Nat,k < 5→w.cell? ⟨3,k,none⟩=some (.string (eb (wordOf k)))
theorem words_of {W:World} {rest:List (String × DataW Unit)} (h:laidMet Tryz.prog (("tallyman/event.words",strData [[],[105,110],[99,104,97,114,103,101],[111,117,116],[99,111,117,110,116]]) :: rest) W):WordTab W:=by
 have hv:=strs_of_head gWords wordsType Tryz.underlying239 Tryz.underlying9 (by kernel_rfl) (by kernel_rfl) h
 intro k hk
 rw [World.var?_cell gWords hv k]
 have:k=0∨k=1∨k=2∨k=3∨k=4:=by omega
 rcases this with rfl | rfl | rfl | rfl | rfl <;> rfl
theorem WordTab.below {w w':World} (h:WordTab w) (hb:Below w.heap.size w w'):WordTab w':=by
 intro k hk
 rw [hb.cell (p:=⟨3,k,none⟩) (World.block_lt_of_cell? _ _ (h k hk))];exact h k hk
structure GlobE (w:World):Prop where
 num:GlobN w
 len:LenTab w
 wrd:WordTab w
theorem GlobE.below {w w':World} (h:GlobE w) (hb:Below w.heap.size w w'):GlobE w':=⟨h.num.below hb,h.len.below hb,h.wrd.below hb⟩
end Go.Proofs.YtbleojodidbhiaaGreatDoor
