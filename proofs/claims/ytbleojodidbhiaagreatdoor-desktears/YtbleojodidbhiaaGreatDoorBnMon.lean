/-  -/
import Derived.Lib.ItoaNum
import Derived.Test.YtbleojodidbhiaaGreatDoorBnA
import Derived.Laws.BytesArg
namespace Go.Proofs.YtbleojodidbhiaaGreatDoor
def dv:Nat→Int→Int
 | 0,n=>n
 | k + 1,n=>dv k n / 10
def dg:Nat→Int→List Int
 | 0,_=>[]
 | k + 1,n=>(48 + dv k n % 10) :: dg k n
theorem dg_length:∀ (k:Nat) (n:Int),(dg k n).length=k
 | 0,_=>rfl
 | k + 1,n=>by simp [dg,dg_length k n]
theorem dv_bd:∀ (k:Nat) (n:Int),0≤n→0≤dv k n∧dv k n≤n
 | 0,n,h=>⟨h,Int.le_refl _⟩
 | k + 1,n,h=>by have:=dv_bd k n h;simp only [dv];omega
def wdN (n:Nat):Nat:=Lib.nDigits n
theorem replicate_set {α:Type} (m:Nat) (z x:α) (l:List α):(List.replicate (m + 1) z ++ l).set m x=List.replicate m z ++ x :: l:=by
 induction m with
 | zero=>simp [List.replicate]
 | succ m ih=>
  rw [List.replicate_succ,List.cons_append,List.set_cons_succ,ih]
  simp [List.replicate_succ]
end Go.Proofs.YtbleojodidbhiaaGreatDoor
namespace Go.Proofs.YtbleojodidbhiaaGreatDoor
open Go.RowKit
theorem Tryz.infoByte:(Tryz.prog.info? 5).map (fun i=>(i.zero,i.size,i.bytes))=some (some (.int .u8 0),1,1):=by kernel_rfl
def dgRow (c k:Nat) (n:Int):List Value:=List.replicate (c - k) (.int .u8 0) ++ (dg k n).map (Value.int .u8)
theorem dgRow_len (c k:Nat) (n:Int) (h:k≤c):(dgRow c k n).length=c:=by simp [dgRow,dg_length];omega
theorem dgRow_step (c k:Nat) (n:Int) (h:k < c):(dgRow c k n).set (c - 1 - k) (.int .u8 (48 + dv k n % 10))=dgRow c (k + 1) n:=by
 unfold dgRow
 have e:c - k=(c - 1 - k) + 1:=by omega
 rw [e,replicate_set]
 have e2:c - (k + 1)=c - 1 - k:=by omega
 rw [e2];rfl
theorem dgRow_all (c:Nat) (n:Int) (i:Nat) (h:i < c):(dgRow c c n)[i]?=some (.int .u8 ((dg c n).getD i 0)):=by
 simp [dgRow,List.getElem?_map,List.getD]
 rw [List.getElem?_eq_getElem (by rw [dg_length];exact h)]
 simp
set_option maxHeartbeats 1000000 in
theorem digits_any (n:Int) (c:Nat) (w:World) (h0:0≤n) (h1:n≤18446744073709551615) (hc:c≤20) :
  Calls Tryz.prog 189 #[.int .u64 n,.int .i64 c] w fun e w'=>e = .returned (.string (strOfNums (dg c n)))∧Below w.heap.size w w':=by
 obtain ⟨i0,hi,hz0,hz1,hz2⟩:=info_parts Tryz.infoByte
 go_enter Tryz.func189,Tryz.ntmps189
 go_wp2_with (at_make;refine wpList_make_full _ rfl _ _ 62 rfl w.heap.size 5 i0 (.int .u8 0) 1 Tryz.underlying62 hi hz0 hz1 .i64 .i64 _ _ c rfl rfl rfl rfl (by rw [hz2];omega) (by unfold maxLen;omega) (Nat.le_refl _) ?_;intro w1 hown hgrow)
 have hbel:Below w.heap.size w w1:=(Below.refl _ _).grown hgrow (Nat.le_refl _) (by simp)
 have hown1:w1.ownsRow w.heap.size 5 1 (.slice (some ⟨w.heap.size,0,none⟩) c c) c (dgRow c 0 n):=by
  have e:(madeCells (Value.int IntKind.u8 0).cells (c * 1)).toList=dgRow c 0 n:=by
   show (madeCells #[_] _).toList=_
   rw [toList_madeCells_one];simp [dgRow,dg]
  rw [← e];exact hown
 clear hown hgrow hi hz0 hz1 hz2
 go_loopw [0,10] (fun m i wr=>∃ k:Nat,k≤c∧i = .int .i64 k∧m = .int .u64 (dv k n)∧wr.ownsRow w.heap.size 5 1 (.slice (some ⟨w.heap.size,0,none⟩) c c) c (dgRow c k n)∧Below w.heap.size w wr) (fun _ i _=>c - (intOf i).toNat)
 case atStart=>exact ⟨0,Nat.zero_le _,rfl,rfl,hown1,hbel⟩
 case round=>
  clear hown1 hbel
  obtain ⟨k,hk,rfl,rfl,hown,hbel⟩:=hrel
  have hd:=dv_bd k n h0
  by_cases hlt:k < c
  ·have hcell:wr.cell? ⟨w.heap.size,c - 1 - k,none⟩=some ((dgRow c k n)[c - 1 - k]'(by rw [dgRow_len _ _ _ hk];omega)):=by
    rw [hown.cellAt _ (by omega)];exact List.getElem?_eq_getElem _
   have hfz:=hown.frozenAt (c - 1 - k)
   have hst:=(hown.stored (c - 1 - k) (.int .u8 (48 + dv k n % 10))).1
   rw [dgRow_step c k n hlt] at hst
   have hb2:=hbel.setCell (p:=⟨w.heap.size,c - 1 - k,none⟩) (Nat.le_refl _) (.int .u8 (48 + dv k n % 10))
   go_wp2
   go_roundw
   case rel=>exact ⟨k + 1,by omega,by go_num,rfl,hst,hb2⟩
   case measure=>simp [intOf];omega
  ·obtain rfl:k=c:=by omega
   have hrun:=run_convert_bytes_arg (P:=Tryz.prog) wr 62 5 Tryz.underlying62 Tryz.underlying5 w.heap.size 0 k k (dg k n) (dg_length _ _) (fun i hi=>by
    have:=hown.cellAt i (by omega);simp only [Nat.zero_add];rw [this];exact dgRow_all k n i hi) 9 Tryz.underlying9
   go_wp2
   go_ret
   exact ⟨rfl,hbel⟩
theorem ten_lt (k:Nat) (n:Int) (h:dv k n < 10) (h0:0≤n):dv (k + 1) n=0:=by
 have:=dv_bd k n h0;simp only [dv];omega
theorem wdN_big (n:Nat) (h:10≤n):wdN n=wdN (n / 10) + 1:=Lib.nDigits_big (by omega)
theorem wdN_small (n:Nat) (h:n < 10):wdN n=1:=Lib.nDigits_small h
theorem wdN_le:∀ (m n:Nat),n < 10 ^ m→1≤m→1≤wdN n∧wdN n≤m
 | 0,_,_,h=>by omega
 | m + 1,n,h,_=>by
  by_cases hn:n < 10
  ·rw [wdN_small n hn];omega
  ·have hm:1≤m:=by
    cases m with
    | zero=>omega
    | succ m=>omega
   have:=wdN_le m (n / 10) (by rw [Nat.pow_succ] at h;omega) hm
   rw [wdN_big n (by omega)];omega
set_option maxHeartbeats 1000000 in
theorem width_any (n:Nat) (w:World) (h1:n≤18446744073709551615) :
  Calls Tryz.prog 190 #[.int .u64 n] w fun e w'=>e = .returned (.int .i64 (wdN n))∧w'=w:=by
 have hw:=wdN_le 20 n (by omega) (by omega)
 go_enter Tryz.func190,Tryz.ntmps190
 go_wp2
 go_loop [0,3] (fun m c=>∃ (x k:Nat),x≤n∧m = .int .u64 x∧c = .int .i64 k∧1≤k∧k + wdN x=wdN n + 1) (fun m _=>(intOf m).toNat)
 case atStart=>exact ⟨n,1,Nat.le_refl _,rfl,rfl,Nat.le_refl _,by omega⟩
 case round=>
  obtain ⟨x,k,hx,rfl,rfl,hk,he⟩:=hrel
  have HE:Hid (k + wdN x=wdN n + 1):=he
  have hkk:k≤wdN n + 1:=by omega
  clear he
  by_cases hlt:x < 10
  ·go_wp2
   go_ret
   refine ⟨ret_int ?_,rfl⟩
   have:=HE.out;rw [wdN_small x hlt] at this;omega
  ·go_wp2
   go_round
   case rel=>
    refine ⟨x / 10,k + 1,by omega,by go_num,by go_num,by omega,?_⟩
    have:=HE.out;rw [wdN_big x (by omega)] at this;omega
   case measure=>simp [intOf];omega
def amtSize (m:Nat):List Int:=dg (wdN (m / 100)) ((m / 100:Nat):Int) ++ 46 :: dg 2 ((m % 100:Nat):Int)
def amt (n:Int):List Int:=(if n < 0 then [45] else []) ++ amtSize n.natAbs
theorem digits_two (n:Int) (w:World) (h0:0≤n) (h1:n≤18446744073709551615) :
  Calls Tryz.prog 189 #[.int .u64 n,.int .i64 2] w fun e w'=>e = .returned (.string (strOfNums (dg 2 n)))∧Below w.heap.size w w':=
 digits_any n 2 w h0 h1 (by omega)
theorem dg_size (c:Nat) (n:Int):(strOfNums (dg c n)).size=c:=by rw [strOfNums_size,dg_length]
theorem ba_ext {a b:ByteArray} (h:a.data.toList=b.data.toList):a=b:=by
 cases a;cases b;simp at h;simp [h]
theorem ret_str {a b:ByteArray} (h:a.data.toList=b.data.toList):Ending.returned (.string a) = .returned (.string b):=by rw [ba_ext h]
set_option maxHeartbeats 1000000 in
theorem print_pos (n:Nat) (w:World) (h1:n≤9223372036854775807) :
  Calls Tryz.prog 139 #[.int .i64 n] w fun e w'=>e = .returned (.string (strOfNums (amt n)))∧Below w.heap.size w w':=by
 have hw:=wdN_le 20 (n / 100) (by omega) (by omega)
 have z1:=dg_size (wdN (n / 100)) ((n:Int) / 100)
 have z2:=dg_size 2 ((n:Int) % 100)
 go_enter Tryz.func139,Tryz.ntmps139
 go_wp2_with (first | (go_at_call 190;refine (width_any (n / 100) _ (by omega)).mono ?_;rintro e w' ⟨rfl,rfl⟩))
 refine (digits_any ((n:Int) / 100) (wdN (n / 100)) _ (by omega) (by omega) (by omega)).mono ?_
 rintro e w1 ⟨rfl,hb1⟩
 go_wp2_with fail
 refine (digits_two ((n:Int) % 100) _ (by omega) (by omega)).mono ?_
 rintro e w2 ⟨rfl,hb2⟩
 go_wp2
 go_ret
 refine ⟨ret_str ?_,hb1.trans (hb2.mono hb1.size)⟩
 rw [strOfNums_data]
 simp [strOfNums,amt,amtSize]
set_option maxHeartbeats 1000000 in
theorem print_neg (n:Int) (w:World) (h0:n < 0) (h1 : -9223372036854775808≤n) :
  Calls Tryz.prog 139 #[.int .i64 n] w fun e w'=>e = .returned (.string (strOfNums (amt n)))∧Below w.heap.size w w':=by
 obtain ⟨m,rfl⟩:∃ m:Nat,n = -(m:Int):=⟨n.natAbs,by omega⟩
 have hw:=wdN_le 20 (m / 100) (by omega) (by omega)
 have z1:=dg_size (wdN (m / 100)) ((m:Int) / 100)
 have z2:=dg_size 2 ((m:Int) % 100)
 have hneg:IntKind.u64.wrap (-(IntKind.u64.wrap (-(m:Int))))=(m:Int):=by rw [IntKind.wrap_u64,IntKind.wrap_u64];omega
 go_enter Tryz.func139,Tryz.ntmps139
 go_wp2_with (first | (go_at_call 190;refine (width_any (m / 100) _ (by omega)).mono ?_;rintro e w' ⟨rfl,rfl⟩))
 refine (digits_any ((m:Int) / 100) (wdN (m / 100)) _ (by omega) (by omega) (by omega)).mono ?_
 rintro e w1 ⟨rfl,hb1⟩
 go_wp2_with fail
 refine (digits_two ((m:Int) % 100) _ (by omega) (by omega)).mono ?_
 rintro e w2 ⟨rfl,hb2⟩
 go_wp2
 go_ret
 refine ⟨ret_str ?_,hb1.trans (hb2.mono hb1.size)⟩
 rw [strOfNums_data]
 have hm:0 < m:=by omega
 simp [strOfNums,amt,amtSize,hm]
theorem print_any (n:Int) (w:World) (h0 : -9223372036854775808≤n) (h1:n≤9223372036854775807) :
  Calls Tryz.prog 139 #[.int .i64 n] w fun e w'=>e = .returned (.string (strOfNums (amt n)))∧Below w.heap.size w w':=by
 by_cases h:n < 0
 ·exact print_neg n w h h0
 ·obtain ⟨m,rfl⟩:∃ m:Nat,n=(m:Int):=⟨n.natAbs,by omega⟩
  exact print_pos m w (by omega)
def byt (l:List Int):List UInt8:=l.map fun n=>UInt8.ofNat n.toNat
def val1 (n:Int) (c:UInt8):Int:=if 48≤(c.toNat:Int)∧(c.toNat:Int)≤57 then n * 10 + ((c.toNat:Int) - 48) else n
def val (l:List UInt8):Int:=l.foldl val1 0
theorem val_snoc (l:List UInt8) (c:UInt8):val (l ++ [c])=val1 (val l) c:=by simp [val]
def sval (l:List UInt8):Int:=if l.head?=some 45 then -val l else val l
theorem val1_bd (n:Int) (c:UInt8) (h:0≤n):0≤val1 n c∧val1 n c≤n * 10 + 9:=by
 unfold val1;split <;> omega
theorem val_bd:∀ (m:Nat) (l:List UInt8),l.length=m→0≤val l∧val l < 10 ^ m
 | 0,l,h=>by
  have:l=[]:=List.eq_nil_of_length_eq_zero h
  subst this;simp [val]
 | m + 1,l,h=>by
  obtain ⟨l',c,rfl⟩:∃ l' c,l=l' ++ [c]:=by
   rcases List.eq_nil_or_concat l with rfl | ⟨l',c,rfl⟩
   ·simp at h
   ·exact ⟨l',c,by simp⟩
  have ih:=val_bd m l' (by simpa using h)
  have:=val1_bd (val l') c ih.1
  rw [val_snoc,Int.pow_succ]
  omega
theorem take_snoc (s:ByteArray) (k:Nat) (h:k < s.size):s.data.toList.take (k + 1)=s.data.toList.take k ++ [s[k]]:=by
 rw [List.take_succ_eq_append_getElem (by simpa using h)];rfl
theorem val_bd15 (l:List UInt8) (h:l.length≤15):0≤val l∧val l≤1000000000000000:=by
 have h1:=val_bd l.length l rfl
 have h2:(10:Int) ^ l.length≤10 ^ 15:=by
  have:(10:Nat) ^ l.length≤10 ^ 15:=Nat.pow_le_pow_right (by omega) h
  exact_mod_cast this
 have h3:(10:Int) ^ 15=1000000000000000:=by decide
 omega
theorem head_is (s:ByteArray) (h:0 < s.size):s.data.toList.head?=some s[0]:=by
 rw [List.head?_eq_getElem?,List.getElem?_eq_getElem (by simpa using h)];rfl
set_option maxHeartbeats 1000000 in
theorem value_any (s:ByteArray) (w:World) (hs:s.size≤15) :
  Calls Tryz.prog 279 #[.string s] w fun e w'=>e = .returned (.int .i64 (sval s.data.toList))∧w'=w:=by
 go_enter Tryz.func279,Tryz.ntmps279
 go_wp2
 go_loop [3,7] (fun n i=>∃ k:Nat,k≤s.size∧i = .int .i64 k∧n = .int .i64 (val (s.data.toList.take k))) (fun _ i=>s.size - (intOf i).toNat)
 case atStart=>exact ⟨0,Nat.zero_le _,rfl,rfl⟩
 case round=>
  obtain ⟨k,hk,rfl,rfl⟩:=hrel
  have hl:(s.data.toList.take k).length≤15:=by
   have:=List.length_take_le k s.data.toList;omega
  have hd:=val_bd15 _ hl
  by_cases hlt:k < s.size
  ·have HS:Hid (val (s.data.toList.take (k + 1))=val1 (val (s.data.toList.take k)) s[k]):=by rw [take_snoc s k hlt];exact val_snoc _ _
   by_cases c1:48≤(s[k].toNat:Int)
   ·by_cases c2:(s[k].toNat:Int)≤57
    ·go_wp2
     go_round
     case rel=>exact ⟨k + 1,by omega,by go_num,by rw [HS.out,val1,if_pos ⟨c1,c2⟩]⟩
     case measure=>simp [intOf];omega
    ·go_wp2
     go_round
     case rel=>exact ⟨k + 1,by omega,by go_num,by rw [HS.out,val1,if_neg (by omega)]⟩
     case measure=>simp [intOf];omega
   ·go_wp2
    go_round
    case rel=>exact ⟨k + 1,by omega,by go_num,by rw [HS.out,val1,if_neg (by omega)]⟩
    case measure=>simp [intOf];omega
  ·have ht:s.data.toList.take k=s.data.toList:=List.take_of_length_le (by simp;omega)
   rw [ht] at hd ⊢
   clear ht hl
   by_cases hp:0 < s.size
   ·have hh:=head_is s hp
    by_cases c:(s[0].toNat:Int)=45
    ·have HM:Hid (-val s.data.toList=sval s.data.toList):=by
      have:s[0]=45:=by apply UInt8.toNat_inj.mp;show s[0].toNat=45;omega
      show _=sval _
      simp [sval,hh,this]
     clear hh
     go_wp2
     go_ret
     exact ⟨ret_int HM.out,rfl⟩
    ·have HM:Hid (val s.data.toList=sval s.data.toList):=by
      have:s[0] ≠ 45:=by intro e;rw [e] at c;exact c rfl
      show _=sval _
      simp [sval,hh,this]
     clear hh
     go_wp2
     go_ret
     exact ⟨ret_int HM.out,rfl⟩
   ·have HM:Hid (val s.data.toList=sval s.data.toList):=by
     have:s.data.toList=[]:=List.eq_nil_of_length_eq_zero (by rw [Array.length_toList];show s.size=0;omega)
     show _=sval _
     simp [sval,this]
    go_wp2
    go_ret
    exact ⟨ret_int HM.out,rfl⟩
theorem sval_bd (l:List UInt8) (h:l.length≤15) : -1000000000000000≤sval l∧sval l≤1000000000000000:=by
 have:=val_bd15 l h
 unfold sval;split <;> omega
theorem eql_iff (a b:ByteArray):(a.toList == b.toList)=decide (a.data.toList=b.data.toList):=by
 rw [ByteArray.toList_eq,ByteArray.toList_eq,Bool.eq_iff_iff];simp
def parsed (l:List UInt8):Option Int:=
 if l.length≤15 ∧ -1000000000000≤sval l∧sval l≤1000000000000∧byt (amt (sval l))=l then some (sval l) else none
theorem parsed_some {l:List UInt8} {n:Int} (h:parsed l=some n):l.length≤15 ∧ -1000000000000≤n∧n≤1000000000000∧byt (amt n)=l∧n=sval l:=by
 unfold parsed at h
 split at h
 ·rename_i hh;simp at h;subst h;exact ⟨hh.1,hh.2.1,hh.2.2.1,hh.2.2.2,rfl⟩
 ·simp at h
set_option maxHeartbeats 1000000 in
theorem parse_ok (s:ByteArray) (n:Int) (w:World) (h:parsed s.data.toList=some n) :
  Calls Tryz.prog 258 #[.string s] w fun e w'=>e = .returned (.tuple #[.int .i64 n,.nilIface])∧Below w.heap.size w w':=by
 obtain ⟨h1,h2,h3,h4,rfl⟩:=parsed_some h
 have h15:s.size≤15:=by simpa using h1
 have hcmp:((strOfNums (amt (sval s.data.toList))).toList == s.toList)=true:=by
  rw [eql_iff];exact decide_eq_true h4
 clear h h1 h4
 go_enter Tryz.func258,Tryz.ntmps258
 go_wp2_with (first | (go_at_call 279;refine (value_any s _ h15).mono ?_;rintro e w' ⟨rfl,rfl⟩) | (go_at_call 139;refine (print_any _ _ (by omega) (by omega)).mono ?_;rintro e w1 ⟨rfl,hb1⟩))
 go_ret2
 exact ⟨rfl,hb1⟩
set_option maxHeartbeats 1000000 in
theorem parse_bad (s:ByteArray) (w:World) (hs:s.size≤maxLen) (h:parsed s.data.toList=none) :
  Calls Tryz.prog 258 #[.string s] w fun e w'=>e = .returned (.tuple #[.int .i64 0,.iface 69 (.int .i64 3)])∧Below w.heap.size w w':=by
 unfold maxLen at hs
 by_cases h15:s.size≤15
 ·have hb:=sval_bd s.data.toList (by simpa using h15)
  by_cases h2 : -1000000000000≤sval s.data.toList
  ·by_cases h3:sval s.data.toList≤1000000000000
   ·have hcmp:((strOfNums (amt (sval s.data.toList))).toList == s.toList)=false:=by
     rw [eql_iff];apply decide_eq_false;intro h4
     unfold parsed at h;rw [if_pos ⟨by simpa using h15,h2,h3,h4⟩] at h;simp at h
    clear h
    go_enter Tryz.func258,Tryz.ntmps258
    go_wp2_with (first | (go_at_call 279;refine (value_any s _ h15).mono ?_;rintro e w' ⟨rfl,rfl⟩) | (go_at_call 139;refine (print_any _ _ (by omega) (by omega)).mono ?_;rintro e w1 ⟨rfl,hb1⟩))
    go_ret2
    exact ⟨rfl,hb1⟩
   ·clear h
    go_enter Tryz.func258,Tryz.ntmps258
    go_wp2_with (first | (go_at_call 279;refine (value_any s _ h15).mono ?_;rintro e w' ⟨rfl,rfl⟩))
    go_ret2
    exact ⟨rfl,Below.refl _ _⟩
  ·clear h
   go_enter Tryz.func258,Tryz.ntmps258
   go_wp2_with (first | (go_at_call 279;refine (value_any s _ h15).mono ?_;rintro e w' ⟨rfl,rfl⟩))
   go_ret2
   exact ⟨rfl,Below.refl _ _⟩
 ·clear h
  go_enter Tryz.func258,Tryz.ntmps258
  go_wp2
  go_ret2
  exact ⟨rfl,Below.refl _ _⟩
end Go.Proofs.YtbleojodidbhiaaGreatDoor
namespace Go.Proofs.YtbleojodidbhiaaGreatDoor
theorem dv_nat:∀ (k q:Nat),dv k (q:Int)=((q / 10 ^ k:Nat):Int)
 | 0,q=>by simp [dv]
 | k + 1,q=>by
  simp only [dv]
  rw [dv_nat k q,Nat.pow_succ,← Nat.div_div_eq_div_mul]
  omega
theorem byt_append (a b:List Int):byt (a ++ b)=byt a ++ byt b:=by simp [byt]
theorem byt_cons (a:Int) (b:List Int):byt (a :: b)=UInt8.ofNat a.toNat :: byt b:=rfl
theorem byt_length (a:List Int):(byt a).length=a.length:=by simp [byt]
theorem dig_nat (d:Nat) (h:d < 10):(UInt8.ofNat (48 + (d:Int)).toNat).toNat=48 + d:=by
 have:(48 + (d:Int)).toNat=48 + d:=by omega
 rw [this];simp;omega
theorem val1_dig (x:Int) (d:Nat) (h:d < 10):val1 x (UInt8.ofNat (48 + (d:Int)).toNat)=x * 10 + d:=by
 unfold val1;rw [dig_nat d h];rw [if_pos (by omega)];omega
theorem fold_dg:∀ (k q:Nat) (x:Int),(byt (dg k (q:Int))).foldl val1 x=x * 10 ^ k + ((q % 10 ^ k:Nat):Int)
 | 0,q,x=>by simp [dg,byt,Nat.mod_one]
 | k + 1,q,x=>by
  have e:48 + dv k (q:Int) % 10=48 + ((q / 10 ^ k % 10:Nat):Int):=by rw [dv_nat];omega
  simp only [dg]
  rw [byt_cons,List.foldl_cons,e,val1_dig x _ (Nat.mod_lt _ (by omega)),fold_dg k q,Nat.mod_pow_succ,Int.pow_succ,Int.add_mul]
  rw [Int.mul_assoc,Int.mul_comm 10 (10 ^ k),Int.add_assoc]
  congr 1
  rw [Int.natCast_add,Int.natCast_mul,Int.natCast_pow,Int.mul_comm,Int.add_comm]
  rfl
theorem wdN_lt:∀ (m n:Nat),n≤m→n < 10 ^ wdN n
 | m,n,h=>by
  by_cases hn:n < 10
  ·rw [wdN_small n hn];omega
  ·have hm:n / 10 < n:=by omega
   match m,h with
   | 0,h=>omega
   | m + 1,h=>
    have:=wdN_lt m (n / 10) (by omega)
    rw [wdN_big n (by omega),Nat.pow_succ];omega
theorem val_amtSize (m:Nat) (x:Int) (hx:x=0):(byt (amtSize m)).foldl val1 x=(m:Int):=by
 subst hx
 unfold amtSize
 rw [byt_append,List.foldl_append,fold_dg,byt_cons,List.foldl_cons]
 have h46:∀ y:Int,val1 y (UInt8.ofNat (46:Int).toNat)=y:=by intro y;simp [val1]
 rw [h46,fold_dg,Nat.mod_eq_of_lt (wdN_lt _ (m / 100) (Nat.le_refl _))]
 have:((m % 100 % 10 ^ 2:Nat):Int)=(m:Int) % 100:=by omega
 rw [this]
 omega
theorem amtSize_head (m:Nat):∃ d l,d < 10∧byt (amtSize m)=UInt8.ofNat (48 + ((d:Nat):Int)).toNat :: l:=by
 unfold amtSize
 have hw:=wdN_le (m / 100 + 1) (m / 100) (Nat.lt_of_lt_of_le (Nat.lt_pow_self (by omega:1 < 10)) (Nat.pow_le_pow_right (by omega) (by omega))) (by omega)
 obtain ⟨k,hk⟩:∃ k,wdN (m / 100)=k + 1:=⟨wdN (m / 100) - 1,by omega⟩
 rw [hk]
 refine ⟨(m / 100) / 10 ^ k % 10,byt (dg k ((m / 100:Nat):Int) ++ 46 :: dg 2 ((m % 100:Nat):Int)),Nat.mod_lt _ (by omega),?_⟩
 simp only [dg,List.cons_append]
 rw [byt_cons,dv_nat]
 rfl
theorem amtSize_length (m:Nat):(amtSize m).length=wdN (m / 100) + 3:=by
 simp [amtSize,dg_length]
theorem sval_amt (n:Int):sval (byt (amt n))=n:=by
 unfold amt
 by_cases h:n < 0
 ·rw [if_pos h,byt_append]
  have e:byt [45]=[45]:=rfl
  rw [e]
  unfold sval
  rw [if_pos (by simp)]
  unfold val
  rw [List.foldl_append]
  have e2:List.foldl val1 0 [45]=0:=by simp [val1]
  rw [e2,val_amtSize _ _ rfl];omega
 ·rw [if_neg h,List.nil_append]
  obtain ⟨d,l,hd,hl⟩:=amtSize_head n.natAbs
  unfold sval
  rw [if_neg]
  ·unfold val;rw [val_amtSize _ _ rfl];omega
  ·rw [hl]
   simp only [List.head?_cons,Option.some.injEq]
   intro e
   have:=dig_nat d hd
   rw [e] at this
   have h45:(45:UInt8).toNat=45:=rfl
   omega
theorem amt_length (n:Int) (h0 : -1000000000000≤n) (h1:n≤1000000000000):(byt (amt n)).length≤15:=by
 rw [byt_length]
 unfold amt
 rw [List.length_append,amtSize_length]
 have:=wdN_le 11 (n.natAbs / 100) (by omega) (by omega)
 split <;> simp <;> omega
theorem parsed_amt (n:Int) (h0 : -1000000000000≤n) (h1:n≤1000000000000):parsed (byt (amt n))=some n:=by
 unfold parsed
 rw [sval_amt,if_pos ⟨amt_length n h0 h1,h0,h1,rfl⟩]
end Go.Proofs.YtbleojodidbhiaaGreatDoor
