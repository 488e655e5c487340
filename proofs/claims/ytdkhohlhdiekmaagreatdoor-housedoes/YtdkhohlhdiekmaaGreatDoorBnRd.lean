/-  -/
import Derived.Test.YtdkhohlhdiekmaaGreatDoorBnA
import Derived.Test.YtdkhohlhdiekmaaGreatDoorBnDayW
import Derived.Test.YtdkhohlhdiekmaaGreatDoorBnDay
import Derived.Test.YtdkhohlhdiekmaaGreatDoorBnGlob
import Derived.Test.YtdkhohlhdiekmaaGreatDoorBnRo
import Derived.Test.YtdkhohlhdiekmaaGreatDoorBnErr
import Derived.Test.YtdkhohlhdiekmaaGreatDoorBnMon
import Derived.Laws.RangeString
import Derived.Lib.AppendIntMem
import Derived.Test.YtdkhohlhdiekmaaGreatDoorBnEv
import Derived.Lib.SmallJoins
import Derived.ArgAppend
namespace Go.Proofs.YtdkhohlhdiekmaaGreatDoor
open Go.RowKit
theorem ix1 (w:World):(Instr.index 260 (.agg #[.int .i64 0,.int .i64 31,.int .i64 28,.int .i64 31,.int .i64 30,.int .i64 31,.int .i64 30,.int .i64 31,.int .i64 31,.int .i64 30,.int .i64 31,.int .i64 30,.int .i64 31]) (.int .i64 1)).run Tryz.prog w = .ok (.int .i64 31) w:=by kernel_rfl
theorem ix2 (w:World):(Instr.index 260 (.agg #[.int .i64 0,.int .i64 31,.int .i64 28,.int .i64 31,.int .i64 30,.int .i64 31,.int .i64 30,.int .i64 31,.int .i64 31,.int .i64 30,.int .i64 31,.int .i64 30,.int .i64 31]) (.int .i64 2)).run Tryz.prog w = .ok (.int .i64 28) w:=by kernel_rfl
theorem ix3 (w:World):(Instr.index 260 (.agg #[.int .i64 0,.int .i64 31,.int .i64 28,.int .i64 31,.int .i64 30,.int .i64 31,.int .i64 30,.int .i64 31,.int .i64 31,.int .i64 30,.int .i64 31,.int .i64 30,.int .i64 31]) (.int .i64 3)).run Tryz.prog w = .ok (.int .i64 31) w:=by kernel_rfl
theorem ix4 (w:World):(Instr.index 260 (.agg #[.int .i64 0,.int .i64 31,.int .i64 28,.int .i64 31,.int .i64 30,.int .i64 31,.int .i64 30,.int .i64 31,.int .i64 31,.int .i64 30,.int .i64 31,.int .i64 30,.int .i64 31]) (.int .i64 4)).run Tryz.prog w = .ok (.int .i64 30) w:=by kernel_rfl
theorem ix5 (w:World):(Instr.index 260 (.agg #[.int .i64 0,.int .i64 31,.int .i64 28,.int .i64 31,.int .i64 30,.int .i64 31,.int .i64 30,.int .i64 31,.int .i64 31,.int .i64 30,.int .i64 31,.int .i64 30,.int .i64 31]) (.int .i64 5)).run Tryz.prog w = .ok (.int .i64 31) w:=by kernel_rfl
theorem ix6 (w:World):(Instr.index 260 (.agg #[.int .i64 0,.int .i64 31,.int .i64 28,.int .i64 31,.int .i64 30,.int .i64 31,.int .i64 30,.int .i64 31,.int .i64 31,.int .i64 30,.int .i64 31,.int .i64 30,.int .i64 31]) (.int .i64 6)).run Tryz.prog w = .ok (.int .i64 30) w:=by kernel_rfl
theorem ix7 (w:World):(Instr.index 260 (.agg #[.int .i64 0,.int .i64 31,.int .i64 28,.int .i64 31,.int .i64 30,.int .i64 31,.int .i64 30,.int .i64 31,.int .i64 31,.int .i64 30,.int .i64 31,.int .i64 30,.int .i64 31]) (.int .i64 7)).run Tryz.prog w = .ok (.int .i64 31) w:=by kernel_rfl
theorem ix8 (w:World):(Instr.index 260 (.agg #[.int .i64 0,.int .i64 31,.int .i64 28,.int .i64 31,.int .i64 30,.int .i64 31,.int .i64 30,.int .i64 31,.int .i64 31,.int .i64 30,.int .i64 31,.int .i64 30,.int .i64 31]) (.int .i64 8)).run Tryz.prog w = .ok (.int .i64 31) w:=by kernel_rfl
theorem ix9 (w:World):(Instr.index 260 (.agg #[.int .i64 0,.int .i64 31,.int .i64 28,.int .i64 31,.int .i64 30,.int .i64 31,.int .i64 30,.int .i64 31,.int .i64 31,.int .i64 30,.int .i64 31,.int .i64 30,.int .i64 31]) (.int .i64 9)).run Tryz.prog w = .ok (.int .i64 30) w:=by kernel_rfl
theorem ix10 (w:World):(Instr.index 260 (.agg #[.int .i64 0,.int .i64 31,.int .i64 28,.int .i64 31,.int .i64 30,.int .i64 31,.int .i64 30,.int .i64 31,.int .i64 31,.int .i64 30,.int .i64 31,.int .i64 30,.int .i64 31]) (.int .i64 10)).run Tryz.prog w = .ok (.int .i64 31) w:=by kernel_rfl
theorem ix11 (w:World):(Instr.index 260 (.agg #[.int .i64 0,.int .i64 31,.int .i64 28,.int .i64 31,.int .i64 30,.int .i64 31,.int .i64 30,.int .i64 31,.int .i64 31,.int .i64 30,.int .i64 31,.int .i64 30,.int .i64 31]) (.int .i64 11)).run Tryz.prog w = .ok (.int .i64 30) w:=by kernel_rfl
theorem ix12 (w:World):(Instr.index 260 (.agg #[.int .i64 0,.int .i64 31,.int .i64 28,.int .i64 31,.int .i64 30,.int .i64 31,.int .i64 30,.int .i64 31,.int .i64 31,.int .i64 30,.int .i64 31,.int .i64 30,.int .i64 31]) (.int .i64 12)).run Tryz.prog w = .ok (.int .i64 31) w:=by kernel_rfl
set_option maxRecDepth 20000 in
set_option maxHeartbeats 1000000 in
theorem rdays_feb (y:Int) (w:World) (h0:0≤y) (h1:y≤10000) :
  Calls Tryz.prog 140 #[.int .i64 y,.int .i64 2] w fun e w'=>e = .returned (.int .i64 (mlen y 2))∧w'=w:=by
 have hix:=ix2 w
 have H2:Hid (mlen y 2=if isLeap y then 29 else 28):=mlen_two y
 by_cases c3:y % 400=0
 ·have hp:Hid (isLeap y=true):=by show isLeap y=true;simp [isLeap];omega
  go_enter Tryz.func140,Tryz.ntmps140
  go_wp2
  go_ret
  exact ⟨dret_int (by rw [H2.out,hp.out];rfl),rfl⟩
 ·by_cases c1:y % 4=0
  ·by_cases c2:y % 100=0
   ·have hp:Hid (isLeap y=false):=by show isLeap y=false;simp [isLeap];omega
    go_enter Tryz.func140,Tryz.ntmps140
    go_wp2
    go_ret
    exact ⟨dret_int (by rw [H2.out,hp.out];rfl),rfl⟩
   ·have hp:Hid (isLeap y=true):=by show isLeap y=true;simp [isLeap];omega
    go_enter Tryz.func140,Tryz.ntmps140
    go_wp2
    ·go_ret
     exact ⟨dret_int (by rw [H2.out,hp.out];rfl),rfl⟩
    ·rename_i hh
     exact absurd hh.2 (by simp [c2])
  ·have hp:Hid (isLeap y=false):=by show isLeap y=false;simp [isLeap];omega
   go_enter Tryz.func140,Tryz.ntmps140
   go_wp2
   go_ret
   exact ⟨dret_int (by rw [H2.out,hp.out];rfl),rfl⟩
set_option maxRecDepth 20000 in
set_option maxHeartbeats 1000000 in
theorem rdays_any (y m:Int) (w:World) (h0:0≤y) (h1:y≤10000) (hm:1≤m) (hm':m≤12) :
  Calls Tryz.prog 140 #[.int .i64 y,.int .i64 m] w fun e w'=>e = .returned (.int .i64 (mlen y m))∧w'=w:=by
 have hc:m=2∨m=1∨m=3∨m=4∨m=5∨m=6∨m=7∨m=8∨m=9∨m=10∨m=11∨m=12:=by omega
 rcases hc with rfl | rfl | rfl | rfl | rfl | rfl | rfl | rfl | rfl | rfl | rfl | rfl
 ·exact rdays_feb y w h0 h1
 ·have hix:=ix1 w
  go_enter Tryz.func140,Tryz.ntmps140
  go_wp2
  go_ret
  exact ⟨rfl,rfl⟩
 ·have hix:=ix3 w
  go_enter Tryz.func140,Tryz.ntmps140
  go_wp2
  go_ret
  exact ⟨rfl,rfl⟩
 ·have hix:=ix4 w
  go_enter Tryz.func140,Tryz.ntmps140
  go_wp2
  go_ret
  exact ⟨rfl,rfl⟩
 ·have hix:=ix5 w
  go_enter Tryz.func140,Tryz.ntmps140
  go_wp2
  go_ret
  exact ⟨rfl,rfl⟩
 ·have hix:=ix6 w
  go_enter Tryz.func140,Tryz.ntmps140
  go_wp2
  go_ret
  exact ⟨rfl,rfl⟩
 ·have hix:=ix7 w
  go_enter Tryz.func140,Tryz.ntmps140
  go_wp2
  go_ret
  exact ⟨rfl,rfl⟩
 ·have hix:=ix8 w
  go_enter Tryz.func140,Tryz.ntmps140
  go_wp2
  go_ret
  exact ⟨rfl,rfl⟩
 ·have hix:=ix9 w
  go_enter Tryz.func140,Tryz.ntmps140
  go_wp2
  go_ret
  exact ⟨rfl,rfl⟩
 ·have hix:=ix10 w
  go_enter Tryz.func140,Tryz.ntmps140
  go_wp2
  go_ret
  exact ⟨rfl,rfl⟩
 ·have hix:=ix11 w
  go_enter Tryz.func140,Tryz.ntmps140
  go_wp2
  go_ret
  exact ⟨rfl,rfl⟩
 ·have hix:=ix12 w
  go_enter Tryz.func140,Tryz.ntmps140
  go_wp2
  go_ret
  exact ⟨rfl,rfl⟩
theorem last_natR (k:Nat):(1900 + ((k:Int) / 12)=ky k)∧((k:Int) % 12 + 1=((k % 12:Nat):Int) + 1):=by unfold ky;omega
theorem rdays_k (k:Nat) (w:World) (h:k≤3620) :
  Calls Tryz.prog 140 #[.int .i64 (1900 + (k:Int) / 12),.int .i64 ((k:Int) % 12 + 1)] w fun e w'=>e = .returned (.int .i64 (klen k))∧w'=w:=by
 have e:=last_natR k
 rw [e.1,e.2]
 exact rdays_any (ky k) (((k % 12:Nat):Int) + 1) w (by have:=ky_ge k;omega) (by unfold ky;omega) (by omega) (by omega)
theorem rparts_is {n:Int} {k:Nat} (h0:0≤n - kfd k) (h1:n - kfd k < klen k):1900 + (k:Int) / 12=ky (dK n)∧(k:Int) % 12 + 1=km (dK n)∧n - kfd k + 1=dD n:=by
 have hi:IsDay n k (n - kfd k + 1):=⟨by omega,by omega,by omega⟩
 obtain ⟨e1,e2⟩:=of_isDay hi
 rw [e1,e2]
 refine ⟨(last_natR k).1,?_,rfl⟩
 rw [(last_natR k).2];rfl
set_option maxHeartbeats 2000000 in
theorem rparts_ok (n:Int) (w:World) (h0:0≤n) (h1:n≤99999) :
  Calls Tryz.prog 98 #[.int .i64 n] w fun e w'=>e = .returned (.tuple #[.int .i64 (ky (dK n)),.int .i64 (km (dK n)),.int .i64 (dD n),.int .i64 0])∧w'=w:=by
 go_enter Tryz.func98,Tryz.ntmps98
 go_wp2_with (go_at_call 33;refine (in_yes _ _ _ _ (by omega) (by omega)).mono ?_;rintro e w' ⟨rfl,hw⟩;subst w')
 go_loop [0,6] (fun v i=>∃ k:Nat,i = .int .i64 k∧v = .int .i64 (n - kfd k)∧0≤n - kfd k) (fun v _=>(intOf v).toNat)
 case atStart=>exact ⟨0,rfl,by simp [kfd],by simp [kfd];omega⟩
 case round=>
  obtain ⟨k,rfl,rfl,hn⟩:=hrel
  have hlow:=kfd_low k
  have hnn:=kfd_nn k
  have hkb:=klen_bd k
  have hk:k≤3600:=by omega
  go_wp2_with fail
  refine (rdays_k k _ (by omega)).mono ?_
  rintro e w' ⟨rfl,hw⟩
  subst w'
  by_cases hc:klen k≤n - kfd k
  ·have HS:Hid (kfd (k + 1)=kfd k + klen k):=rfl
   go_wp2_with fail
   refine (rdays_k k _ (by omega)).mono ?_
   rintro e w' ⟨rfl,hw⟩
   subst w'
   go_wp2
   go_round
   case rel=>
    have:=HS.out
    exact ⟨k + 1,by go_num,by go_num,by omega⟩
   case measure=>simp [intOf];omega
  ·have HP:Hid (1900 + (k:Int) / 12=ky (dK n)∧(k:Int) % 12 + 1=km (dK n)∧n - kfd k + 1=dD n):=rparts_is hn (by omega)
   go_wp2
   (try simp only [Exit.inBlock,Exit.then])
   refine bodyPost_ret (four_results rfl _ _ _) rfl ?_
   exact ⟨tup4 HP.out.1 HP.out.2.1 HP.out.2.2,rfl⟩
set_option maxHeartbeats 1000000 in
theorem rparts_bad (n:Int) (w:World) (h:n < 0∨99999 < n) :
  Calls Tryz.prog 98 #[.int .i64 n] w fun e w'=>e = .returned (.tuple #[.int .i64 0,.int .i64 0,.int .i64 0,.int .i64 1])∧w'=w:=by
 go_enter Tryz.func98,Tryz.ntmps98
 go_wp2_with (go_at_call 33;refine (in_no _ _ _ _ (by omega)).mono ?_;rintro e w' ⟨rfl,hw⟩;subst w')
 (try simp only [Exit.inBlock,Exit.then])
 refine bodyPost_ret (four_results rfl _ _ _) rfl ?_
 exact ⟨rfl,rfl⟩
theorem rmonth_is (k:Nat):12 * ky k + km k - 22800 - 1=(k:Int):=by unfold ky km;omega
set_option maxHeartbeats 1000000 in
theorem rmonth_ok (n:Int) (w:World) (h0:0≤n) (h1:n≤99999) :
  Calls Tryz.prog 55 #[.int .i64 n] w fun e w'=>e = .returned (.tuple #[.int .i64 (dK n:Int),.int .i64 0])∧w'=w:=by
 have hk:=dK_le h0 h1
 have hy:1900≤ky (dK n)∧ky (dK n)≤2200:=⟨ky_ge _,by unfold ky;omega⟩
 have hm:=km_bd (dK n)
 have HM:Hid (12 * ky (dK n) + km (dK n) - 22800 - 1=(dK n:Int)):=rmonth_is (dK n)
 clear hk
 go_enter Tryz.func55,Tryz.ntmps55
 go_wp2_with fail
 refine (rparts_ok n _ h0 h1).mono ?_
 rintro e w' ⟨rfl,hw⟩
 subst w'
 go_wp2
 go_ret2
 exact ⟨tup2 HM.out,rfl⟩
set_option maxHeartbeats 1000000 in
theorem rmonth_bad (n:Int) (w:World) (h:n < 0∨99999 < n) :
  Calls Tryz.prog 55 #[.int .i64 n] w fun e w'=>e = .returned (.tuple #[.int .i64 0,.int .i64 1])∧w'=w:=by
 go_enter Tryz.func55,Tryz.ntmps55
 go_wp2_with fail
 refine (rparts_bad n _ h).mono ?_
 rintro e w' ⟨rfl,hw⟩
 subst w'
 go_wp2
 go_ret2
 exact ⟨rfl,rfl⟩
theorem Glob.num {w:World} (h:Glob w):GlobN w:=⟨h.tab,h.syn,h.rng,h.ml⟩
def strSize:Value→Nat | .string s=>s.size | _=>0
theorem ba_append (a b:ByteArray):(a ++ b).data.toList=a.data.toList ++ b.data.toList:=by simp
theorem ba_extract (x:ByteArray) (a b:Nat):(x.extract a b).data.toList=(x.data.toList.take b).drop a:=by
 rw [ByteArray.data_extract,Array.toList_extract,List.drop_take]
theorem ba_len (x:ByteArray):x.data.toList.length=x.size:=by simp
theorem nought_size (x:ByteArray):((⟨#[48]⟩:ByteArray) ++ x).size=x.size + 1:=by
 rw [← ba_len,ba_append,List.length_append,ba_len x];show 1 + x.size=_;omega
theorem nought_list (x:ByteArray):((⟨#[48]⟩:ByteArray) ++ x).data.toList=48 :: x.data.toList:=by rw [ba_append];rfl
theorem amount_end (n:Int) (sg x s:ByteArray) (hsg:sg.data.toList=if n < 0 then [45] else []) (hs:s.data.toList=Lib.decDigits n.natAbs) (hp:pad3 x.data.toList=pad3 s.data.toList) (h3:3≤x.size) :
  (sg ++ x.extract 0 (x.size - 2) ++ ⟨#[46]⟩ ++ x.extract (x.size - 2) x.size).data.toList=byt (amt n):=by
 have e:x.data.toList=pad3 (Lib.decDigits n.natAbs):=by rw [← hs,← hp,pad3_long _ (by rw [ba_len];exact h3)]
 rw [amount_is,← e,ba_append,ba_append,ba_append,ba_extract,ba_extract,hsg,ba_len]
 rw [List.take_of_length_le (l:=x.data.toList) (i:=x.size) (by rw [ba_len];exact Nat.le_refl _)]
 simp
set_option maxHeartbeats 2000000 in
theorem amount_pos (n:Nat) (w:World) (hg:Glob w) (h1:n≤9223372036854775807) :
  Calls Tryz.prog 137 #[.int .i64 n] w fun e w'=>e = .returned (.string ⟨(byt (amt n)).toArray⟩)∧Below w.heap.size w w':=by
 have HT:Hid (Lib.TabIs Tryz.prog w "internal/strconv.uint64pow10" .u64 Lib.pow10Tab):=hg.tab
 clear hg
 obtain ⟨s,hs⟩:∃ s:ByteArray,s=⟨(Lib.itoa (n:Int)).toArray⟩:=⟨_,rfl⟩
 have hitoa:Lib.itoa (n:Int)=Lib.decDigits n:=by unfold Lib.itoa;rw [if_neg (by omega)];rfl
 have hl:s.data.toList=Lib.decDigits n:=by rw [hs,hitoa]
 have hlen:s.size=Lib.nDigits n:=by rw [← Lib.decDigits_length,← hl];simp
 have hp:0 < s.size:=by rw [hlen];exact Lib.nDigits_pos n
 have hsz:s.size≤20:=by
  rw [hlen,← wdN_nDigits n];exact (wdN_le 20 n (by omega) (by omega)).2
 have hne:(s[0].toNat:Int) ≠ 45:=by
  have:=decDigits_dig n n (Nat.le_refl _) s[0] (by rw [← hl];exact List.getElem_mem (by simpa using hp))
  omega
 have HE:Hid (s=⟨(Lib.itoa (n:Int)).toArray⟩):=hs
 have HL:Hid (s.data.toList=Lib.decDigits n):=hl
 clear hs hitoa hl hlen
 go_enter Tryz.func137,Tryz.ntmps137
 go_wp2_with (go_at_call 51;refine (Tryz.strconv_Itoa (n:Int) (by omega) (by omega) _ HT.out).mono ?_;rintro e w1 ⟨rfl,n1,os1,hw1⟩;rw [← HE.out];have hb1:Below w.heap.size w w1:=hw1 ▸ Lib.below_grow _ _ (Nat.le_refl _) _ _;clear hw1)
 go_loop [3] (fun v=>∃ x:ByteArray,v = .string x∧1≤x.size∧x.size≤20∧pad3 x.data.toList=pad3 s.data.toList) (fun v=>3 - strSize v)
 case atStart=>exact ⟨s,rfl,hp,hsz,rfl⟩
 case round=>
  obtain ⟨x,rfl,x1,x2,hpad⟩:=hrel
  have HP:Hid (pad3 x.data.toList=pad3 s.data.toList):=hpad
  clear hpad
  by_cases hlt:x.size < 3
  ·go_wp2
   go_round
   case rel=>
    refine ⟨_,rfl,?_,?_,?_⟩
    ·rw [nought_size];omega
    ·rw [nought_size];omega
    ·rw [nought_list,← HP.out];exact pad3_step _ (by rw [ba_len];exact hlt)
   case measure=>simp only [strSize];rw [nought_size];omega
  ·go_wp2
   go_quiet (fail)
   go_wp2
   go_ret
   refine ⟨ret_str ?_,below_drewN hb1 _⟩
   exact amount_end (n:Int) ⟨#[]⟩ x s (by rw [if_neg (by omega)]) HL.out HP.out (by omega)
set_option maxHeartbeats 2000000 in
theorem amount_neg (m:Nat) (w:World) (hg:Glob w) (h0:1≤m) (h1:m≤9223372036854775808) :
  Calls Tryz.prog 137 #[.int .i64 (-(m:Int))] w fun e w'=>e = .returned (.string ⟨(byt (amt (-(m:Int)))).toArray⟩)∧Below w.heap.size w w':=by
 have HT:Hid (Lib.TabIs Tryz.prog w "internal/strconv.uint64pow10" .u64 Lib.pow10Tab):=hg.tab
 clear hg
 obtain ⟨s,hs⟩:∃ s:ByteArray,s=⟨(Lib.itoa (-(m:Int))).toArray⟩:=⟨_,rfl⟩
 have hitoa:Lib.itoa (-(m:Int))=45 :: Lib.decDigits m:=by
  unfold Lib.itoa;rw [if_pos (by omega)];congr 2;omega
 have hl:s.data.toList=45 :: Lib.decDigits m:=by rw [hs,hitoa]
 have hlen:s.size=Lib.nDigits m + 1:=by rw [← ba_len,hl,List.length_cons,Lib.decDigits_length]
 have hp:1 < s.size:=by have:=Lib.nDigits_pos m;omega
 have hsz:s.size≤21:=by
  rw [hlen,← wdN_nDigits m];have:=(wdN_le 20 m (by omega) (by omega)).2;omega
 have hp0:0 < s.size:=by omega
 have hne:((s[0]'hp0).toNat:Int)=45:=by
  have:s.data.toList.head?=some (s[0]'hp0):=head_is s hp0
  rw [hl] at this
  simp at this
  rw [← this];rfl
 have hx:(s.extract 1 s.size).data.toList=Lib.decDigits m:=by
  rw [ba_extract,List.take_of_length_le (by rw [ba_len];exact Nat.le_refl _),hl];rfl
 have hxs:(s.extract 1 s.size).size=s.size - 1:=by rw [← ba_len,hx,Lib.decDigits_length];omega
 have HE:Hid (s=⟨(Lib.itoa (-(m:Int))).toArray⟩):=hs
 have HL:Hid ((s.extract 1 s.size).data.toList=Lib.decDigits m):=hx
 have HX:Hid ((s.extract 1 s.size).size=s.size - 1):=hxs
 clear hs hitoa hl hlen hx hxs
 go_enter Tryz.func137,Tryz.ntmps137
 go_wp2_with (go_at_call 51;refine (Tryz.strconv_Itoa (-(m:Int)) (by omega) (by omega) _ HT.out).mono ?_;rintro e w1 ⟨rfl,n1,os1,hw1⟩;rw [← HE.out];have hb1:Below w.heap.size w w1:=hw1 ▸ Lib.below_grow _ _ (Nat.le_refl _) _ _;clear hw1)
 go_quiet (fail)
 go_wp2
 go_loop [3] (fun v=>∃ x:ByteArray,v = .string x∧1≤x.size∧x.size≤20∧pad3 x.data.toList=pad3 (s.extract 1 s.size).data.toList) (fun v=>3 - strSize v)
 case atStart=>exact ⟨s.extract 1 s.size,rfl,by rw [HX.out];omega,by rw [HX.out];omega,rfl⟩
 case round=>
  obtain ⟨x,rfl,x1,x2,hpad⟩:=hrel
  have HP:Hid (pad3 x.data.toList=pad3 (s.extract 1 s.size).data.toList):=hpad
  clear hpad
  by_cases hlt:x.size < 3
  ·go_wp2
   go_round
   case rel=>
    refine ⟨_,rfl,?_,?_,?_⟩
    ·rw [nought_size];omega
    ·rw [nought_size];omega
    ·rw [nought_list,← HP.out];exact pad3_step _ (by rw [ba_len];exact hlt)
   case measure=>simp only [strSize];rw [nought_size];omega
  ·go_wp2
   go_quiet (fail)
   go_wp2
   go_ret
   refine ⟨ret_str ?_,below_drewN (below_drewN hb1 _) _⟩
   exact amount_end (-(m:Int)) ⟨#[45]⟩ x (s.extract 1 s.size) (by rw [if_pos (by omega)]) (by rw [HL.out];congr 1;omega) HP.out (by omega)
theorem amount_any (n:Int) (w:World) (hg:Glob w) (h0 : -9223372036854775808≤n) (h1:n≤9223372036854775807) :
  Calls Tryz.prog 137 #[.int .i64 n] w fun e w'=>e = .returned (.string ⟨(byt (amt n)).toArray⟩)∧Below w.heap.size w w':=by
 by_cases h:n < 0
 ·obtain ⟨m,rfl⟩:∃ m:Nat,n = -(m:Int):=⟨n.natAbs,by omega⟩
  exact amount_neg m w hg (by omega) (by omega)
 ·obtain ⟨m,rfl⟩:∃ m:Nat,n=(m:Int):=⟨n.natAbs,by omega⟩
  exact amount_pos m w hg (by omega)
theorem itoa_any (n:Int) (w:World) (hg:Glob w) (h0 : -9223372036854775808≤n) (h1:n≤9223372036854775807) :
  Calls Tryz.prog 51 #[.int .i64 n] w fun e w'=>e = .returned (.string ⟨(Lib.itoa n).toArray⟩)∧Below w.heap.size w w':=by
 refine (Tryz.strconv_Itoa n h0 h1 w hg.tab).mono fun e w' ⟨he,n1,os1,hw⟩=>⟨he,?_⟩
 exact hw ▸ Lib.below_grow _ _ (Nat.le_refl _) _ _
theorem itoa_data (l:List UInt8):(⟨l.toArray⟩:ByteArray).data.toList=l:=rfl
set_option maxHeartbeats 1000000 in
theorem rtwo_any (n:Int) (w:World) (hg:Glob w) (h0:0≤n) (h1:n≤99) :
  Calls Tryz.prog 141 #[.int .i64 n] w fun e w'=>e = .returned (.string (strOfNums (tw n)))∧Below w.heap.size w w':=by
 obtain ⟨s,hs⟩:∃ s:ByteArray,s=⟨(Lib.itoa (100 + n)).toArray⟩:=⟨_,rfl⟩
 have hl:s.data.toList=49 :: bts (tw n):=by
  obtain ⟨k,rfl⟩:∃ k:Nat,n=(k:Int):=⟨n.toNat,by omega⟩
  have e:(100:Int) + (k:Int)=((100 + k:Nat):Int):=by omega
  rw [hs,itoa_data,e,itoa_nat,dec_hundred k (by omega)]
 have hz:s.size=3:=by rw [← dba_len,hl];rfl
 have HS:Hid (s=⟨(Lib.itoa (100 + n)).toArray⟩):=hs
 have HE:Hid (s.extract 1 s.size=strOfNums (tw n)):=by
  show s.extract 1 s.size=_
  apply dba_ext
  rw [dba_extract,List.take_of_length_le (by rw [dba_len];exact Nat.le_refl _),hl,strOfNums_data];rfl
 rw [hz] at HE
 have HG:Hid (Glob w):=hg
 clear hs hl hg
 go_enter Tryz.func141,Tryz.ntmps141
 go_wp2_with fail
 refine (itoa_any (100 + n) _ HG.out (by omega) (by omega)).mono ?_
 rintro e w1 ⟨rfl,hb1⟩
 rw [← HS.out]
 clear HS HG
 go_wp2
 go_ret
 exact ⟨congrArg (fun x=>Ending.returned (.string x)) HE.out,hb1⟩
set_option maxHeartbeats 2000000 in
theorem rdate_ok (n:Int) (w:World) (hg:Glob w) (h0:0≤n) (h1:n≤99999) :
  Calls Tryz.prog 97 #[.int .i64 n] w fun e w'=>e = .returned (.tuple #[.string (strOfNums (DT n)),.int .i64 0])∧Below w.heap.size w w':=by
 have hk:=dK_le h0 h1
 obtain ⟨y,hy⟩:∃ y,y=ky (dK n):=⟨_,rfl⟩
 obtain ⟨m,hm⟩:∃ m,m=km (dK n):=⟨_,rfl⟩
 obtain ⟨d,hd⟩:∃ d,d=dD n:=⟨_,rfl⟩
 have hyb:1900≤y∧y≤2200:=by rw [hy];exact ⟨ky_ge _,by unfold ky;omega⟩
 have hmb:1≤m∧m≤12:=by rw [hm];exact km_bd _
 have hdb:1≤d∧d≤31:=by rw [hd];exact dD_bd h0
 have HD:Hid (DT n=dtx y m d):=by show DT n=_;rw [hy,hm,hd];rfl
 have hp:=rparts_ok n w h0 h1
 rw [← hy,← hm,← hd] at hp
 have HP:Hid (Calls Tryz.prog 98 #[.int .i64 n] w fun e w'=>e = .returned (.tuple #[.int .i64 y,.int .i64 m,.int .i64 d,.int .i64 0])∧w'=w):=hp
 obtain ⟨s,hs⟩:∃ s:ByteArray,s=⟨(Lib.itoa y).toArray⟩:=⟨_,rfl⟩
 have hl:s.data.toList=bts (tw (y / 100) ++ tw (y % 100)):=by
  obtain ⟨k,rfl⟩:∃ k:Nat,y=(k:Int):=⟨y.toNat,by omega⟩
  rw [hs,itoa_data,itoa_nat,dec_four k (by omega) (by omega)]
 have HSL:Hid (s.data.toList=bts (tw (y / 100) ++ tw (y % 100))):=hl
 have z1:s.size=4:=by rw [← dba_len,hl];rfl
 have z3:=two_size m
 have z4:=two_size d
 have HS:Hid (s=⟨(Lib.itoa y).toArray⟩):=hs
 have HG:Hid (Glob w):=hg
 clear hy hm hd hk hp hg hl hs
 go_enter Tryz.func97,Tryz.ntmps97
 go_wp2_with fail
 refine HP.out.mono ?_
 rintro e w' ⟨rfl,hw⟩
 subst w'
 clear HP
 go_wp2_with fail
 refine (itoa_any y _ HG.out (by omega) (by omega)).mono ?_
 rintro e w1 ⟨rfl,hb1⟩
 rw [← HS.out]
 have HG1:Hid (Glob w1):=HG.out.below hb1
 clear HS HG
 go_wp2_with fail
 refine (rtwo_any m _ HG1.out (by omega) (by omega)).mono ?_
 rintro e w2 ⟨rfl,hb2⟩
 have HG2:Hid (Glob w2):=HG1.out.below hb2
 have h12:=hb1.trans (hb2.mono hb1.size)
 clear HG1 hb1 hb2
 go_wp2_with fail
 refine (rtwo_any d _ HG2.out (by omega) (by omega)).mono ?_
 rintro e w3 ⟨rfl,hb3⟩
 have h13:=h12.trans (hb3.mono h12.size)
 clear HG2 h12 hb3
 go_wp2
 go_ret2
 refine ⟨tup2s ?_,h13⟩
 rw [HD.out,dtx_data]
 have:=HSL.out
 simp [this,strOfNums,dtx,bts]
theorem amtE (n:Int) (w:World) (hg:Glob w) (h0 : -9223372036854775808≤n) (h1:n≤9223372036854775807) :
  Calls Tryz.prog 137 #[.int .i64 n] w fun e w'=>e = .returned (.string (eb (byt (amt n))))∧Below w.heap.size w w':=amount_any n w hg h0 h1
theorem eb_amt_size (n:Int) (h0:0≤n) (h1:n≤1000000000000):(eb (byt (amt n))).size≤15:=by
 have e:(eb (byt (amt n))).size=(byt (amt n)).length:=by rw [← dba_len];rfl
 rw [e];exact amt_length n (by omega) h1
theorem tx_in (item:ByteArray) (id qty price ofI day:Int):strOfNums (DT day) ++ ⟨#[32,105,110,32]⟩ ++ item ++ ⟨#[32]⟩ ++ eb (Lib.itoa qty) ++ ⟨#[32,97,116,32]⟩ ++ eb (byt (amt price))=eb (ET ⟨id,item,1,qty,price,ofI,day⟩):=by
 apply dba_ext
 have e:ET ⟨id,item,1,qty,price,ofI,day⟩=bts (DT day) ++ 32 :: ([105,110] ++ 32 :: (item.data.toList ++ 32 :: (Lib.itoa qty ++ 32 :: ([97,116] ++ 32 :: byt (amt price))))):=rfl
 rw [e,eb_list]
 simp [DT_data,eb_list]
theorem tx_ch (item:ByteArray) (id qty price ofI day:Int):strOfNums (DT day) ++ ⟨#[32,99,104,97,114,103,101,32]⟩ ++ item ++ ⟨#[32]⟩ ++ eb (byt (amt price)) ++ ⟨#[32,102,111,114,32]⟩ ++ eb (Lib.itoa ofI)=eb (ET ⟨id,item,2,qty,price,ofI,day⟩):=by
 apply dba_ext
 have e:ET ⟨id,item,2,qty,price,ofI,day⟩=bts (DT day) ++ 32 :: ([99,104,97,114,103,101] ++ 32 :: (item.data.toList ++ 32 :: (byt (amt price) ++ 32 :: ([102,111,114] ++ 32 :: Lib.itoa ofI)))):=rfl
 rw [e,eb_list]
 simp [DT_data,eb_list]
theorem tx_ou (item:ByteArray) (id qty price ofI day:Int):strOfNums (DT day) ++ ⟨#[32,111,117,116,32]⟩ ++ item ++ ⟨#[32]⟩ ++ eb (Lib.itoa qty)=eb (ET ⟨id,item,3,qty,price,ofI,day⟩):=by
 apply dba_ext
 have e:ET ⟨id,item,3,qty,price,ofI,day⟩=bts (DT day) ++ 32 :: ([111,117,116] ++ 32 :: (item.data.toList ++ 32 :: Lib.itoa qty)):=rfl
 rw [e,eb_list]
 simp [DT_data,eb_list]
theorem tx_co (item:ByteArray) (id qty price ofI day:Int):strOfNums (DT day) ++ ⟨#[32,99,111,117,110,116,32]⟩ ++ item ++ ⟨#[32]⟩ ++ eb (Lib.itoa qty)=eb (ET ⟨id,item,4,qty,price,ofI,day⟩):=by
 apply dba_ext
 have e:ET ⟨id,item,4,qty,price,ofI,day⟩=bts (DT day) ++ 32 :: ([99,111,117,110,116] ++ 32 :: (item.data.toList ++ 32 :: Lib.itoa qty)):=rfl
 rw [e,eb_list]
 simp [DT_data,eb_list]
set_option maxHeartbeats 4000000 in
theorem rtext_bad (e:Ev) (w:World) (hw:EvW e) (h:¬ Rt e) :
  Calls Tryz.prog 92 #[evV e] w fun x w'=>x = .returned (.tuple #[.string ⟨#[]⟩,.int .i64 1])∧Below w.heap.size w w':=by
 have HR:=fun v:World=>hidN (rright_any e v hw)
 have HN:=hidN h
 clear h hw
 obtain ⟨id,item,kind,qty,price,ofI,day⟩:=e
 have hb0:Below w.heap.size w (w.alloc (.cells #[.int .i64 id,.string item,.int .i64 kind,.int .i64 qty,.int .i64 price,.int .i64 ofI,.int .i64 day] 78)):=(Below.refl _ _).alloc (Nat.le_refl _) _
 unfold evV at *
 simp only at *
 go_enter Tryz.func92,Tryz.ntmps92
 go_wp2_with fail
 refine (HR _).out.mono ?_
 rintro x W1 ⟨⟨b,rfl,hb⟩,hb1⟩
 clear HR
 have HB:=hidN hb
 clear hb
 rcases b with _ | _
 ·go_wp2
  go_ret2
  exact ⟨rfl,hb0.trans (hb1.mono hb0.size)⟩
 ·exact absurd (HB.out.1 rfl) HN.out
set_option maxHeartbeats 8000000 in
theorem rtext_in (id:Int) (item:ByteArray) (qty price day:Int) (w:World) (hg:Glob w) (hw:EvW ⟨id,item,1,qty,price,0,day⟩) (h:Rt ⟨id,item,1,qty,price,0,day⟩) :
  Calls Tryz.prog 92 #[evV ⟨id,item,1,qty,price,0,day⟩] w fun x w'=>x = .returned (.tuple #[.string (eb (ET ⟨id,item,1,qty,price,0,day⟩)),.int .i64 0])∧Below w.heap.size w w':=by
 have HR:=fun v:World=>hidN (rright_any ⟨id,item,1,qty,price,0,day⟩ v hw)
 have HN:=hidN h
 have HG:=hidN hg
 have z0:=DT_size day
 have z2:=name_size h.1
 have hd:=h.2.1
 have hk:(1≤qty∧qty≤100000)∧(0≤price∧price≤1000000):=by
  have hk:=h.2.2
  unfold rtK at hk
  simp only at hk
  omega
 have z1:=itoa_size qty (by omega) (by omega)
 have z3:=eb_amt_size price (by omega) (by omega)
 have HI:=hidN (fun (v:World) (hv:Glob v)=>itoaN qty v hv.num (by omega) (by omega))
 have HS:=hidN (tx_in item id qty price 0 day)
 obtain ⟨dt,hdt⟩:∃ t,t=strOfNums (DT day):=⟨_,rfl⟩
 have HD:=hidN (fun (v:World) (hv:Glob v)=>rdate_ok day v hv hd.1 hd.2)
 rw [← hdt] at z0 HS HD
 obtain ⟨ET0,hET⟩:∃ t,t=eb (ET ⟨id,item,1,qty,price,0,day⟩):=⟨_,rfl⟩
 rw [← hET] at HS ⊢
 clear hw h hg hd hdt hET
 have hb0:Below w.heap.size w (w.alloc (.cells #[.int .i64 id,.string item,.int .i64 1,.int .i64 qty,.int .i64 price,.int .i64 0,.int .i64 day] 78)):=(Below.refl _ _).alloc (Nat.le_refl _) _
 have hE0:EvAt (w.alloc (.cells #[.int .i64 id,.string item,.int .i64 1,.int .i64 qty,.int .i64 price,.int .i64 0,.int .i64 day] 78)) w.heap.size ⟨id,item,1,qty,price,0,day⟩:=by
  constructor <;> simp
 unfold evV at *
 simp only at *
 have hU:=up_ne
 go_enter Tryz.func92,Tryz.ntmps92
 go_wp2_with fail
 refine (HR _).out.mono ?_
 rintro x W1 ⟨⟨b,rfl,hb⟩,hb1⟩
 obtain rfl:b=true:=hb.2 HN.out
 clear HR HN hb
 have hB1:=hb0.trans (hb1.mono hb0.size)
 have hE1:=hE0.below hb1
 obtain ⟨c0,c1,c2,c3,c4,c5,c6⟩:=hE1
 simp only at c0 c1 c2 c3 c4 c5 c6
 clear hb0 hb1
 go_wp2_with fail
 refine (HD.out _ (HG.out.below hB1)).mono ?_
 rintro x W2 ⟨rfl,hb2⟩
 have hE2:EvAt W2 w.heap.size ⟨id,item,1,qty,price,0,day⟩:=EvAt.below ⟨c0,c1,c2,c3,c4,c5,c6⟩ hb2
 have hB2:=hB1.trans (hb2.mono hB1.size)
 clear c0 c1 c2 c3 c4 c5 c6 hB1 hb2 HD hE0
 obtain ⟨c0,c1,c2,c3,c4,c5,c6⟩:=hE2
 simp only at c0 c1 c2 c3 c4 c5 c6
 go_wp2_with fail
 refine (HI.out _ (HG.out.below hB2)).mono ?_
 rintro x W3 ⟨rfl,hb3⟩
 have hE3:EvAt W3 w.heap.size ⟨id,item,1,qty,price,0,day⟩:=EvAt.below ⟨c0,c1,c2,c3,c4,c5,c6⟩ hb3
 have hB3:=hB2.trans (hb3.mono hB2.size)
 clear c0 c1 c2 c3 c4 c5 c6 hB2 hb3 HI
 have hE3':=hE3
 obtain ⟨c0,c1,c2,c3,c4,c5,c6⟩:=hE3
 simp only at c0 c1 c2 c3 c4 c5 c6
 go_wp2_with fail
 refine wp_region_mix [(true,0),(true,1),(true,2),(true,3),(true,4),(true,5),(true,6),(true,7),(true,8),(true,9),(true,10),(false,11),(true,12),(true,13),(true,14)] (by kernel_rfl) (by kernel_rfl) ?_
 obtain ⟨W4,hW⟩:∃ W,W=W3.drew:=⟨_,rfl⟩
 rw [← hW]
 have hb4:Below W3.heap.size W3 W4:=by rw [hW];exact below_drew _
 clear hW c0 c1 c2 c3 c4 c5 c6
 have hB4:=hB3.trans (hb4.mono hB3.size)
 have hE4:=hE3'.below hb4
 have f1:=fun n:Up W4=>(hE4.up n).c1
 have f4:=fun n:Up W4=>(hE4.up n).c4
 have f5:=fun n:Up W4=>(hE4.up n).c5
 clear hE3' hB3 hb4
 repeat (refine mix_q rfl ?_;go_big_quiet_step (fail);refine wpQuiet_nil ?_)
 refine mix_n rfl ?_
 go_wp2_with fail
 refine (amtE price _ (HG.out.below hB4) (by omega) (by omega)).mono ?_
 rintro x W5 ⟨rfl,hb5⟩
 go_wp2_with fail
 refine ⟨rfl,hb5,?_⟩
 repeat (refine mix_q rfl ?_;go_big_quiet_step (fail);refine wpQuiet_nil ?_)
 refine mix_nil ?_
 go_wp2
 go_ret2
 exact ⟨congrArg (fun s=>Ending.returned (.tuple #[.string s,.int .i64 0])) HS.out,hB4.trans (hb5.mono hB4.size)⟩
set_option maxHeartbeats 8000000 in
theorem rtext_ch (id:Int) (item:ByteArray) (price ofI day:Int) (w:World) (hg:Glob w) (hw:EvW ⟨id,item,2,0,price,ofI,day⟩) (h:Rt ⟨id,item,2,0,price,ofI,day⟩) :
  Calls Tryz.prog 92 #[evV ⟨id,item,2,0,price,ofI,day⟩] w fun x w'=>x = .returned (.tuple #[.string (eb (ET ⟨id,item,2,0,price,ofI,day⟩)),.int .i64 0])∧Below w.heap.size w w':=by
 have HR:=fun v:World=>hidN (rright_any ⟨id,item,2,0,price,ofI,day⟩ v hw)
 have HN:=hidN h
 have HG:=hidN hg
 have z0:=DT_size day
 have z2:=name_size h.1
 have hd:=h.2.1
 have hk:(1≤price∧price≤100000000000)∧(1≤ofI∧ofI≤9223372036854775807):=by
  have hk:=h.2.2
  unfold rtK at hk
  simp only at hk
  omega
 have z3:=eb_amt_size price (by omega) (by omega)
 have z4:=itoa_size ofI (by omega) (by omega)
 have HI:=hidN (fun (v:World) (hv:Glob v)=>itoaN 0 v hv.num (by omega) (by omega))
 have HS:=hidN (tx_ch item id 0 price ofI day)
 obtain ⟨dt,hdt⟩:∃ t,t=strOfNums (DT day):=⟨_,rfl⟩
 have HD:=hidN (fun (v:World) (hv:Glob v)=>rdate_ok day v hv hd.1 hd.2)
 rw [← hdt] at z0 HS HD
 obtain ⟨ET0,hET⟩:∃ t,t=eb (ET ⟨id,item,2,0,price,ofI,day⟩):=⟨_,rfl⟩
 rw [← hET] at HS ⊢
 clear hw h hg hd hdt hET
 have hb0:Below w.heap.size w (w.alloc (.cells #[.int .i64 id,.string item,.int .i64 2,.int .i64 0,.int .i64 price,.int .i64 ofI,.int .i64 day] 78)):=(Below.refl _ _).alloc (Nat.le_refl _) _
 have hE0:EvAt (w.alloc (.cells #[.int .i64 id,.string item,.int .i64 2,.int .i64 0,.int .i64 price,.int .i64 ofI,.int .i64 day] 78)) w.heap.size ⟨id,item,2,0,price,ofI,day⟩:=by
  constructor <;> simp
 unfold evV at *
 simp only at *
 have hU:=up_ne
 go_enter Tryz.func92,Tryz.ntmps92
 go_wp2_with fail
 refine (HR _).out.mono ?_
 rintro x W1 ⟨⟨b,rfl,hb⟩,hb1⟩
 obtain rfl:b=true:=hb.2 HN.out
 clear HR HN hb
 have hB1:=hb0.trans (hb1.mono hb0.size)
 have hE1:=hE0.below hb1
 obtain ⟨c0,c1,c2,c3,c4,c5,c6⟩:=hE1
 simp only at c0 c1 c2 c3 c4 c5 c6
 clear hb0 hb1
 go_wp2_with fail
 refine (HD.out _ (HG.out.below hB1)).mono ?_
 rintro x W2 ⟨rfl,hb2⟩
 have hE2:EvAt W2 w.heap.size ⟨id,item,2,0,price,ofI,day⟩:=EvAt.below ⟨c0,c1,c2,c3,c4,c5,c6⟩ hb2
 have hB2:=hB1.trans (hb2.mono hB1.size)
 clear c0 c1 c2 c3 c4 c5 c6 hB1 hb2 HD hE0
 obtain ⟨c0,c1,c2,c3,c4,c5,c6⟩:=hE2
 simp only at c0 c1 c2 c3 c4 c5 c6
 go_wp2_with fail
 refine (HI.out _ (HG.out.below hB2)).mono ?_
 rintro x W3 ⟨rfl,hb3⟩
 have hE3:EvAt W3 w.heap.size ⟨id,item,2,0,price,ofI,day⟩:=EvAt.below ⟨c0,c1,c2,c3,c4,c5,c6⟩ hb3
 have hB3:=hB2.trans (hb3.mono hB2.size)
 clear c0 c1 c2 c3 c4 c5 c6 hB2 hb3 HI
 have hE3':=hE3
 obtain ⟨c0,c1,c2,c3,c4,c5,c6⟩:=hE3
 simp only at c0 c1 c2 c3 c4 c5 c6
 go_wp2_with fail
 refine wp_region_mix [(true,0),(true,1),(true,2),(true,3),(true,4),(true,5),(true,6),(true,7),(true,11),(true,12),(false,8),(true,9),(true,10),(false,13),(true,14),(true,15),(true,16)] (by kernel_rfl) (by kernel_rfl) ?_
 obtain ⟨W4,hW⟩:∃ W,W=W3.drew:=⟨_,rfl⟩
 rw [← hW]
 have hb4:Below W3.heap.size W3 W4:=by rw [hW];exact below_drew _
 clear hW c0 c1 c2 c3 c4 c5 c6
 have hB4:=hB3.trans (hb4.mono hB3.size)
 have hE4:=hE3'.below hb4
 have f1:=fun n:Up W4=>(hE4.up n).c1
 have f4:=fun n:Up W4=>(hE4.up n).c4
 have f5:=fun n:Up W4=>(hE4.up n).c5
 clear hE3' hB3 hb4
 repeat (refine mix_q rfl ?_;go_big_quiet_step (fail);refine wpQuiet_nil ?_)
 refine mix_n rfl ?_
 go_wp2_with fail
 refine (amtE price _ (HG.out.below hB4) (by omega) (by omega)).mono ?_
 rintro x W5 ⟨rfl,hb5⟩
 go_wp2_with fail
 refine ⟨rfl,hb5,?_⟩
 repeat (refine mix_q rfl ?_;go_big_quiet_step (fail);refine wpQuiet_nil ?_)
 have hB5:=hB4.trans (hb5.mono hB4.size)
 refine mix_n rfl ?_
 go_wp2_with fail
 refine (itoaN ofI _ (HG.out.below hB5).num (by omega) (by omega)).mono ?_
 rintro x W6 ⟨rfl,hb6⟩
 go_wp2_with fail
 refine ⟨rfl,hb6,?_⟩
 repeat (refine mix_q rfl ?_;go_big_quiet_step (fail);refine wpQuiet_nil ?_)
 refine mix_nil ?_
 go_wp2
 go_ret2
 exact ⟨congrArg (fun s=>Ending.returned (.tuple #[.string s,.int .i64 0])) HS.out,hB5.trans (hb6.mono hB5.size)⟩
set_option maxHeartbeats 8000000 in
theorem rtext_ou (id:Int) (item:ByteArray) (qty day:Int) (w:World) (hg:Glob w) (hw:EvW ⟨id,item,3,qty,0,0,day⟩) (h:Rt ⟨id,item,3,qty,0,0,day⟩) :
  Calls Tryz.prog 92 #[evV ⟨id,item,3,qty,0,0,day⟩] w fun x w'=>x = .returned (.tuple #[.string (eb (ET ⟨id,item,3,qty,0,0,day⟩)),.int .i64 0])∧Below w.heap.size w w':=by
 have HR:=fun v:World=>hidN (rright_any ⟨id,item,3,qty,0,0,day⟩ v hw)
 have HN:=hidN h
 have HG:=hidN hg
 have z0:=DT_size day
 have z2:=name_size h.1
 have hd:=h.2.1
 have hk:1≤qty∧qty≤100000:=by
  have hk:=h.2.2
  unfold rtK at hk
  simp only at hk
  omega
 have z1:=itoa_size qty (by omega) (by omega)
 have HI:=hidN (fun (v:World) (hv:Glob v)=>itoaN qty v hv.num (by omega) (by omega))
 have HS:=hidN (tx_ou item id qty 0 0 day)
 obtain ⟨dt,hdt⟩:∃ t,t=strOfNums (DT day):=⟨_,rfl⟩
 have HD:=hidN (fun (v:World) (hv:Glob v)=>rdate_ok day v hv hd.1 hd.2)
 rw [← hdt] at z0 HS HD
 obtain ⟨ET0,hET⟩:∃ t,t=eb (ET ⟨id,item,3,qty,0,0,day⟩):=⟨_,rfl⟩
 rw [← hET] at HS ⊢
 clear hw h hg hd hdt hET
 have hb0:Below w.heap.size w (w.alloc (.cells #[.int .i64 id,.string item,.int .i64 3,.int .i64 qty,.int .i64 0,.int .i64 0,.int .i64 day] 78)):=(Below.refl _ _).alloc (Nat.le_refl _) _
 have hE0:EvAt (w.alloc (.cells #[.int .i64 id,.string item,.int .i64 3,.int .i64 qty,.int .i64 0,.int .i64 0,.int .i64 day] 78)) w.heap.size ⟨id,item,3,qty,0,0,day⟩:=by
  constructor <;> simp
 unfold evV at *
 simp only at *
 have hU:=up_ne
 go_enter Tryz.func92,Tryz.ntmps92
 go_wp2_with fail
 refine (HR _).out.mono ?_
 rintro x W1 ⟨⟨b,rfl,hb⟩,hb1⟩
 obtain rfl:b=true:=hb.2 HN.out
 clear HR HN hb
 have hB1:=hb0.trans (hb1.mono hb0.size)
 have hE1:=hE0.below hb1
 obtain ⟨c0,c1,c2,c3,c4,c5,c6⟩:=hE1
 simp only at c0 c1 c2 c3 c4 c5 c6
 clear hb0 hb1
 go_wp2_with fail
 refine (HD.out _ (HG.out.below hB1)).mono ?_
 rintro x W2 ⟨rfl,hb2⟩
 have hE2:EvAt W2 w.heap.size ⟨id,item,3,qty,0,0,day⟩:=EvAt.below ⟨c0,c1,c2,c3,c4,c5,c6⟩ hb2
 have hB2:=hB1.trans (hb2.mono hB1.size)
 clear c0 c1 c2 c3 c4 c5 c6 hB1 hb2 HD hE0
 obtain ⟨c0,c1,c2,c3,c4,c5,c6⟩:=hE2
 simp only at c0 c1 c2 c3 c4 c5 c6
 go_wp2_with fail
 refine (HI.out _ (HG.out.below hB2)).mono ?_
 rintro x W3 ⟨rfl,hb3⟩
 have hE3:EvAt W3 w.heap.size ⟨id,item,3,qty,0,0,day⟩:=EvAt.below ⟨c0,c1,c2,c3,c4,c5,c6⟩ hb3
 have hB3:=hB2.trans (hb3.mono hB2.size)
 clear c0 c1 c2 c3 c4 c5 c6 hB2 hb3 HI
 have hE3':=hE3
 obtain ⟨c0,c1,c2,c3,c4,c5,c6⟩:=hE3
 simp only at c0 c1 c2 c3 c4 c5 c6
 clear hE3'
 go_wp2
 go_ret2
 exact ⟨congrArg (fun s=>Ending.returned (.tuple #[.string s,.int .i64 0])) HS.out,hB3⟩
set_option maxHeartbeats 8000000 in
theorem rtext_co (id:Int) (item:ByteArray) (qty day:Int) (w:World) (hg:Glob w) (hw:EvW ⟨id,item,4,qty,0,0,day⟩) (h:Rt ⟨id,item,4,qty,0,0,day⟩) :
  Calls Tryz.prog 92 #[evV ⟨id,item,4,qty,0,0,day⟩] w fun x w'=>x = .returned (.tuple #[.string (eb (ET ⟨id,item,4,qty,0,0,day⟩)),.int .i64 0])∧Below w.heap.size w w':=by
 have HR:=fun v:World=>hidN (rright_any ⟨id,item,4,qty,0,0,day⟩ v hw)
 have HN:=hidN h
 have HG:=hidN hg
 have z0:=DT_size day
 have z2:=name_size h.1
 have hd:=h.2.1
 have hk:0≤qty∧qty≤100000:=by
  have hk:=h.2.2
  unfold rtK at hk
  simp only at hk
  omega
 have z1:=itoa_size qty (by omega) (by omega)
 have HI:=hidN (fun (v:World) (hv:Glob v)=>itoaN qty v hv.num (by omega) (by omega))
 have HS:=hidN (tx_co item id qty 0 0 day)
 obtain ⟨dt,hdt⟩:∃ t,t=strOfNums (DT day):=⟨_,rfl⟩
 have HD:=hidN (fun (v:World) (hv:Glob v)=>rdate_ok day v hv hd.1 hd.2)
 rw [← hdt] at z0 HS HD
 obtain ⟨ET0,hET⟩:∃ t,t=eb (ET ⟨id,item,4,qty,0,0,day⟩):=⟨_,rfl⟩
 rw [← hET] at HS ⊢
 clear hw h hg hd hdt hET
 have hb0:Below w.heap.size w (w.alloc (.cells #[.int .i64 id,.string item,.int .i64 4,.int .i64 qty,.int .i64 0,.int .i64 0,.int .i64 day] 78)):=(Below.refl _ _).alloc (Nat.le_refl _) _
 have hE0:EvAt (w.alloc (.cells #[.int .i64 id,.string item,.int .i64 4,.int .i64 qty,.int .i64 0,.int .i64 0,.int .i64 day] 78)) w.heap.size ⟨id,item,4,qty,0,0,day⟩:=by
  constructor <;> simp
 unfold evV at *
 simp only at *
 have hU:=up_ne
 go_enter Tryz.func92,Tryz.ntmps92
 go_wp2_with fail
 refine (HR _).out.mono ?_
 rintro x W1 ⟨⟨b,rfl,hb⟩,hb1⟩
 obtain rfl:b=true:=hb.2 HN.out
 clear HR HN hb
 have hB1:=hb0.trans (hb1.mono hb0.size)
 have hE1:=hE0.below hb1
 obtain ⟨c0,c1,c2,c3,c4,c5,c6⟩:=hE1
 simp only at c0 c1 c2 c3 c4 c5 c6
 clear hb0 hb1
 go_wp2_with fail
 refine (HD.out _ (HG.out.below hB1)).mono ?_
 rintro x W2 ⟨rfl,hb2⟩
 have hE2:EvAt W2 w.heap.size ⟨id,item,4,qty,0,0,day⟩:=EvAt.below ⟨c0,c1,c2,c3,c4,c5,c6⟩ hb2
 have hB2:=hB1.trans (hb2.mono hB1.size)
 clear c0 c1 c2 c3 c4 c5 c6 hB1 hb2 HD hE0
 obtain ⟨c0,c1,c2,c3,c4,c5,c6⟩:=hE2
 simp only at c0 c1 c2 c3 c4 c5 c6
 go_wp2_with fail
 refine (HI.out _ (HG.out.below hB2)).mono ?_
 rintro x W3 ⟨rfl,hb3⟩
 have hE3:EvAt W3 w.heap.size ⟨id,item,4,qty,0,0,day⟩:=EvAt.below ⟨c0,c1,c2,c3,c4,c5,c6⟩ hb3
 have hB3:=hB2.trans (hb3.mono hB2.size)
 clear c0 c1 c2 c3 c4 c5 c6 hB2 hb3 HI
 have hE3':=hE3
 obtain ⟨c0,c1,c2,c3,c4,c5,c6⟩:=hE3
 simp only at c0 c1 c2 c3 c4 c5 c6
 clear hE3'
 go_wp2
 go_ret2
 exact ⟨congrArg (fun s=>Ending.returned (.tuple #[.string s,.int .i64 0])) HS.out,hB3⟩
theorem rtext_ok (e:Ev) (w:World) (hg:Glob w) (hw:EvW e) (h:Rt e) :
  Calls Tryz.prog 92 #[evV e] w fun x w'=>x = .returned (.tuple #[.string (eb (ET e)),.int .i64 0])∧Below w.heap.size w w':=by
 obtain ⟨id,item,kind,qty,price,ofI,day⟩:=e
 have hk:=h.2.2
 unfold rtK at hk
 simp only at hk
 rcases hk with ⟨rfl,_,_,rfl⟩ | ⟨rfl,rfl,_,_⟩ | ⟨rfl,_,rfl,rfl⟩ | ⟨rfl,_,rfl,rfl⟩
 ·exact rtext_in id item qty price day w hg hw h
 ·exact rtext_ch id item price ofI day w hg hw h
 ·exact rtext_ou id item qty day w hg hw h
 ·exact rtext_co id item qty day w hg hw h
theorem str_data (l:List UInt8):(⟨l.toArray⟩:ByteArray).data.toList=l:=rfl
theorem replace_any (s:ByteArray) (w:World) (hg:Glob w) (hs:s.size≤1000) :
  Calls Tryz.prog 136 #[.string s,.string ⟨#[46]⟩,.string ⟨#[]⟩,.int .i64 1] w fun e w'=>e = .returned (.string ⟨(Lib.replace s.data.toList [46] [] 1).toArray⟩)∧Below w.heap.size w w':=by
 obtain ⟨m,hm⟩:=hg.ml
 exact Tryz.strings_Replace s ⟨#[46]⟩ ⟨#[]⟩ 1 m w (by omega) hm (by decide) (by show s.size + _ * 0≤_;omega)
theorem rk_len:∀ (k:Nat) (s:List UInt8),(Lib.replaceK [46] [] k s).length≤s.length
 | 0,s=>Nat.le_refl _
 | k + 1,s=>by
  unfold Lib.replaceK
  split
  ·exact Nat.le_refl _
  ·have:=rk_len k (s.drop ((Lib.index s [46]).toNat + [46].length))
   rw [List.length_drop] at this
   simp only [List.length_append,List.length_take,List.length_nil,List.length_cons] at *
   omega
theorem replace_len (s:List UInt8):(Lib.replace s [46] [] 1).length≤s.length:=by
 unfold Lib.replace;split
 ·exact Nat.le_refl _
 ·exact rk_len _ _
set_option maxHeartbeats 2000000 in
theorem refParse_ok (s:ByteArray) (n:Int) (w:World) (hg:Glob w) (h:parsed s.data.toList=some n) :
  Calls Tryz.prog 91 #[.string s] w fun e w'=>e = .returned (.tuple #[.int .i64 n,.int .i64 0])∧Below w.heap.size w w':=by
 obtain ⟨p1,p2,p3,p4,p5⟩:=parsed_some h
 have hz:s.size≤15:=by rw [← ba_len];exact p1
 have HG:Hid (Glob w):=hg
 have hcmp:(byt (amt n) == s.toList)=true:=by
  rw [ByteArray.toList_eq,p4];simp
 obtain ⟨r,hr⟩:∃ r:ByteArray,r=⟨(Lib.replace s.data.toList [46] [] 1).toArray⟩:=⟨_,rfl⟩
 have HR:Hid (r=⟨(Lib.replace s.data.toList [46] [] 1).toArray⟩):=hr
 have HA:Hid (Lib.atoiAll r.data.toList = .ok n):=by
  show _=_;rw [hr,str_data,← p4];exact atoi_amt n p2 p3
 have hrs:r.size≤1000:=by
  have:=replace_len s.data.toList
  rw [← ba_len,hr,str_data];rw [ba_len] at this;omega
 clear hg h p1 p4 p5 hr
 go_enter Tryz.func91,Tryz.ntmps91
 go_wp2_with fail
 refine (replace_any s _ HG.out (by omega)).mono ?_
 rintro e w1 ⟨rfl,hb1⟩
 rw [← HR.out]
 have HG1:Hid (Glob w1):=HG.out.below hb1
 clear HG HR
 go_wp2_with fail
 refine (atoi_any r _ HG1.out (by omega)).mono ?_
 rintro e w2 ⟨⟨v,hv,rfl⟩ | ⟨x,tq,q,hno,_⟩,hb2⟩
 rotate_left
 ·exact absurd HA.out (hno n)
 obtain rfl:v=n:=by rw [HA.out] at hv;cases hv;rfl
 have hb12:=hb1.trans (hb2.mono hb1.size)
 have HG2:Hid (Glob w2):=HG1.out.below hb2
 clear hv HA HG1 hb1 hb2
 go_wp2_with (go_at_call 33;refine (in_yes _ _ _ _ (by omega) (by omega)).mono ?_;rintro e w' ⟨rfl,hw⟩;subst w')
 refine (amount_any v _ HG2.out (by omega) (by omega)).mono ?_
 rintro e w3 ⟨rfl,hb3⟩
 clear HG2
 go_wp2
 go_ret2
 exact ⟨rfl,hb12.trans (hb3.mono hb12.size)⟩
set_option maxHeartbeats 2000000 in
theorem refParse_bad (s:ByteArray) (w:World) (hg:Glob w) (hs:s.size≤1000) (h:parsed s.data.toList=none) :
  Calls Tryz.prog 91 #[.string s] w fun e w'=>e = .returned (.tuple #[.int .i64 0,.int .i64 3])∧Below w.heap.size w w':=by
 have HG:Hid (Glob w):=hg
 have HN:Hid (parsed s.data.toList=none):=h
 obtain ⟨r,hr⟩:∃ r:ByteArray,r=⟨(Lib.replace s.data.toList [46] [] 1).toArray⟩:=⟨_,rfl⟩
 have HR:Hid (r=⟨(Lib.replace s.data.toList [46] [] 1).toArray⟩):=hr
 have hrs:r.size≤1000:=by
  have:=replace_len s.data.toList
  rw [← ba_len,hr,str_data];rw [ba_len] at this;omega
 clear hg h hr
 go_enter Tryz.func91,Tryz.ntmps91
 go_wp2_with fail
 refine (replace_any s _ HG.out (by omega)).mono ?_
 rintro e w1 ⟨rfl,hb1⟩
 rw [← HR.out]
 have HG1:Hid (Glob w1):=HG.out.below hb1
 clear HG HR
 go_wp2_with fail
 refine (atoi_any r _ HG1.out (by omega)).mono ?_
 rintro e w2 ⟨⟨v,hv,rfl⟩ | ⟨x,tq,q,hno,rfl⟩,hb2⟩
 ·have hb12:=hb1.trans (hb2.mono hb1.size)
  have HG2:Hid (Glob w2):=HG1.out.below hb2
  clear hv HG1 hb1 hb2
  by_cases hin : -1000000000000≤v∧v≤1000000000000
  ·have hcmp:(byt (amt v) == s.toList)=false:=by
    rw [ByteArray.toList_eq]
    apply Bool.eq_false_iff.2
    intro e
    have h2:=parsed_amt v hin.1 hin.2
    rw [eq_of_beq e,HN.out] at h2;cases h2
   clear HN
   go_wp2_with (go_at_call 33;refine (in_yes _ _ _ _ (by omega) (by omega)).mono ?_;rintro e w' ⟨rfl,hw⟩;subst w')
   refine (amount_any v _ HG2.out (by omega) (by omega)).mono ?_
   rintro e w3 ⟨rfl,hb3⟩
   clear HG2
   go_wp2
   go_ret2
   exact ⟨rfl,hb12.trans (hb3.mono hb12.size)⟩
  ·clear HN HG2
   go_wp2_with (go_at_call 33;refine (in_no _ _ _ _ (by omega)).mono ?_;rintro e w' ⟨rfl,hw⟩;subst w')
   go_ret2
   exact ⟨rfl,hb12⟩
 ·have hb12:=hb1.trans (hb2.mono hb1.size)
  clear hno HN HG1 hb1 hb2
  go_wp2
  go_ret2
  exact ⟨rfl,hb12⟩
set_option maxHeartbeats 2000000 in
theorem rday_in (y m d:Int) (w:World) (h0:1900≤y) (h1:y≤2200) (hm:1≤m) (hm':m≤12) (hd:1≤d) (hd':d≤mlen y m) (hn:fst y m + d - 1≤99999) :
  Calls Tryz.prog 96 #[.int .i64 y,.int .i64 m,.int .i64 d] w fun e w'=>e = .returned (.tuple #[.int .i64 (fst y m + d - 1),.int .i64 0])∧w'=w:=by
 have hb:=mlen_bd y m
 have HF:Hid (kfd (mk y m) + d - 1=fst y m + d - 1):=by show _=_;rw [fst_mk h0 hm hm']
 obtain ⟨K,hK⟩:∃ K:Nat,K=mk y m:=⟨_,rfl⟩
 have hKe:(y - 1900) * 12 + m - 1=(K:Int):=by rw [hK];unfold mk;omega
 rw [← hK] at HF
 have hn2:kfd K + d - 1≤99999:=by rw [HF.out];exact hn
 clear hK hn
 go_enter Tryz.func96,Tryz.ntmps96
 go_wp2_with (first
  | (go_at_call 33;refine (in_yes _ _ _ _ (by omega) (by omega)).mono ?_;rintro e w' ⟨rfl,hw⟩;subst w')
  | (go_at_call 140;refine (rdays_any y m _ (by omega) (by omega) hm hm').mono ?_;rintro e w' ⟨rfl,hw⟩;subst w'))
 go_loop [8,9] (fun n i=>∃ k:Nat,k≤K∧i = .int .i64 k∧n = .int .i64 (kfd k + d - 1)) (fun _ i=>K - (intOf i).toNat)
 case atStart=>exact ⟨0,Nat.zero_le _,rfl,by simp [kfd]⟩
 case round=>
  obtain ⟨k,hk,rfl,rfl⟩:=hrel
  have hu:=kfd_up k
  have hnn:=kfd_nn k
  by_cases hlt:k < K
  ·have hkb:=klen_bd k
   have HS:Hid (kfd (k + 1)=kfd k + klen k):=rfl
   go_wp2_with fail
   refine (rdays_k k _ (by omega)).mono ?_
   rintro e w' ⟨rfl,hw⟩
   subst w'
   go_wp2
   go_round
   case rel=>exact ⟨k + 1,by omega,by go_num,by rw [HS.out];go_num⟩
   case measure=>simp [intOf];omega
  ·obtain rfl:k=K:=by omega
   go_wp2
   go_ret2
   exact ⟨tup2 HF.out,rfl⟩
set_option maxHeartbeats 2000000 in
theorem rday_over (y m d:Int) (w:World) (h0:1900≤y) (h1:y≤2200) (hm:1≤m) (hm':m≤12) (hd:1≤d) (hd':d≤mlen y m) (hn:99999 < fst y m + d - 1) :
  Calls Tryz.prog 96 #[.int .i64 y,.int .i64 m,.int .i64 d] w fun e w'=>e = .returned (.tuple #[.int .i64 0,.int .i64 1])∧w'=w:=by
 have hb:=mlen_bd y m
 have HF:Hid (kfd (mk y m) + d - 1=fst y m + d - 1):=by show _=_;rw [fst_mk h0 hm hm']
 obtain ⟨K,hK⟩:∃ K:Nat,K=mk y m:=⟨_,rfl⟩
 have hKe:(y - 1900) * 12 + m - 1=(K:Int):=by rw [hK];unfold mk;omega
 rw [← hK] at HF
 have hn2:99999 < kfd K + d - 1:=by rw [HF.out];exact hn
 clear hK hn
 go_enter Tryz.func96,Tryz.ntmps96
 go_wp2_with (first
  | (go_at_call 33;refine (in_yes _ _ _ _ (by omega) (by omega)).mono ?_;rintro e w' ⟨rfl,hw⟩;subst w')
  | (go_at_call 140;refine (rdays_any y m _ (by omega) (by omega) hm hm').mono ?_;rintro e w' ⟨rfl,hw⟩;subst w'))
 go_loop [8,9] (fun n i=>∃ k:Nat,k≤K∧i = .int .i64 k∧n = .int .i64 (kfd k + d - 1)) (fun _ i=>K - (intOf i).toNat)
 case atStart=>exact ⟨0,Nat.zero_le _,rfl,by simp [kfd]⟩
 case round=>
  obtain ⟨k,hk,rfl,rfl⟩:=hrel
  have hu:=kfd_up k
  have hnn:=kfd_nn k
  by_cases hlt:k < K
  ·have hkb:=klen_bd k
   have HS:Hid (kfd (k + 1)=kfd k + klen k):=rfl
   go_wp2_with fail
   refine (rdays_k k _ (by omega)).mono ?_
   rintro e w' ⟨rfl,hw⟩
   subst w'
   go_wp2
   go_round
   case rel=>exact ⟨k + 1,by omega,by go_num,by rw [HS.out];go_num⟩
   case measure=>simp [intOf];omega
  ·obtain rfl:k=K:=by omega
   go_wp2
   go_ret2
   exact ⟨rfl,rfl⟩
set_option maxHeartbeats 1000000 in
theorem rday_day (y m d:Int) (w:World) (h0:1900≤y) (h1:y≤2200) (hm:1≤m) (hm':m≤12) (hd:d < 1∨mlen y m < d) :
  Calls Tryz.prog 96 #[.int .i64 y,.int .i64 m,.int .i64 d] w fun e w'=>e = .returned (.tuple #[.int .i64 0,.int .i64 1])∧w'=w:=by
 have hb:=mlen_bd y m
 go_enter Tryz.func96,Tryz.ntmps96
 go_wp2_with fail
 refine (in_yes y 1900 2200 _ h0 h1).mono ?_
 rintro e w' ⟨rfl,hw⟩
 subst w'
 go_wp2_with fail
 refine (in_yes m 1 12 _ hm hm').mono ?_
 rintro e w' ⟨rfl,hw⟩
 subst w'
 go_wp2_with fail
 refine (rdays_any y m _ (by omega) (by omega) hm hm').mono ?_
 rintro e w' ⟨rfl,hw⟩
 subst w'
 go_wp2_with fail
 refine (in_no d 1 (mlen y m) _ hd).mono ?_
 rintro e w' ⟨rfl,hw⟩
 subst w'
 go_wp2
 go_ret2
 exact ⟨rfl,rfl⟩
set_option maxHeartbeats 1000000 in
theorem rday_out (y m d:Int) (w:World) (h:y < 1900∨2200 < y∨m < 1∨12 < m) :
  Calls Tryz.prog 96 #[.int .i64 y,.int .i64 m,.int .i64 d] w fun e w'=>e = .returned (.tuple #[.int .i64 0,.int .i64 1])∧w'=w:=by
 by_cases c:1900≤y∧y≤2200
 ·go_enter Tryz.func96,Tryz.ntmps96
  go_wp2_with fail
  refine (in_yes y 1900 2200 _ c.1 c.2).mono ?_
  rintro e w' ⟨rfl,hw⟩
  subst w'
  go_wp2_with fail
  refine (in_no m 1 12 _ (by omega)).mono ?_
  rintro e w' ⟨rfl,hw⟩
  subst w'
  go_wp2
  go_ret2
  exact ⟨rfl,rfl⟩
 ·go_enter Tryz.func96,Tryz.ntmps96
  go_wp2_with fail
  refine (in_no y 1900 2200 _ (by omega)).mono ?_
  rintro e w' ⟨rfl,hw⟩
  subst w'
  go_wp2
  go_ret2
  exact ⟨rfl,rfl⟩
theorem rday_ok (y m d n:Int) (w:World) (h:ofDay y m d=some n) :
  Calls Tryz.prog 96 #[.int .i64 y,.int .i64 m,.int .i64 d] w fun e w'=>e = .returned (.tuple #[.int .i64 n,.int .i64 0])∧w'=w:=by
 obtain ⟨a,b,c,e,f,g,i,j,k,l⟩:=ofDay_some h
 rw [i]
 exact rday_in y m d w a b c e f g (by omega)
theorem rday_bad (y m d:Int) (w:World) (h:ofDay y m d=none) :
  Calls Tryz.prog 96 #[.int .i64 y,.int .i64 m,.int .i64 d] w fun e w'=>e = .returned (.tuple #[.int .i64 0,.int .i64 1])∧w'=w:=by
 by_cases c:1900≤y∧y≤2200∧1≤m∧m≤12
 ·obtain ⟨c1,c2,c3,c4⟩:=c
  by_cases e:1≤d∧d≤mlen y m
  ·have:¬ fst y m + d - 1≤99999:=by
    intro hn
    unfold ofDay at h
    rw [if_pos ⟨c1,c2,c3,c4,e.1,e.2,hn⟩] at h
    simp at h
   exact rday_over y m d w c1 c2 c3 c4 e.1 e.2 (by omega)
  ·exact rday_day y m d w c1 c2 c3 c4 (by omega)
 ·exact rday_out y m d w (by omega)
theorem three_of {α:Type} (l:List α) (h:l.length=3):∃ a b c,l=[a,b,c]:=by
 match l,h with
 | [a,b,c],_=>exact ⟨a,b,c,rfl⟩
theorem split_3 (s x0 x1 x2:ByteArray) (w:World) (hg:Glob w) (hs:s.size≤300) (hc:Lib.countB s ⟨#[45]⟩=2) (hp:Lib.splitB ⟨#[45]⟩ 0 2 s=[x0,x1,x2]) :
  Calls Tryz.prog 90 #[.string s,.string ⟨#[45]⟩] w fun e w'=>e = .returned (.slice (some ⟨w.heap.size,0,none⟩) 3 3)∧w'=w.alloc (.cells #[.string x0,.string x1,.string x2] 9):=by
 obtain ⟨m,hm⟩:=hg.ml
 have h:=Tryz.strings_Split s ⟨#[45]⟩ m w (by omega) hm (by decide)
 rw [hc,hp] at h
 exact h
theorem split_other (s:ByteArray) (w:World) (hg:Glob w) (hs:s.size≤300) (hc:Lib.countB s ⟨#[45]⟩ ≠ 2) :
  Calls Tryz.prog 90 #[.string s,.string ⟨#[45]⟩] w fun e w'=>∃ c:Nat,e = .returned (.slice (some ⟨w.heap.size,0,none⟩) c c)∧c ≠ 3∧c≤1000∧Below w.heap.size w w':=by
 obtain ⟨m,hm⟩:=hg.ml
 refine (Tryz.strings_Split s ⟨#[45]⟩ m w (by omega) hm (by decide)).mono fun e w' ⟨he,hw⟩=>?_
 have hle:Lib.countB s ⟨#[45]⟩≤s.data.toList.length + 1:=Lib.count_le _ _
 rw [dba_len] at hle
 subst hw
 exact ⟨_,he,by omega,by omega,(Below.refl _ _).alloc (Nat.le_refl _) _⟩
theorem alloc3_cells (w w1:World) (a b c:Value) (t:TypeId) (hb:Below (w.alloc (.cells #[a,b,c] t)).heap.size (w.alloc (.cells #[a,b,c] t)) w1) :
  w1.cell? ⟨w.heap.size,0,none⟩=some a∧w1.cell? ⟨w.heap.size,1,none⟩=some b∧w1.cell? ⟨w.heap.size,2,none⟩=some c:=by
 refine ⟨?_,?_,?_⟩
 ·rw [hb.cell (p:=⟨w.heap.size,0,none⟩) (by simp)];simp
 ·rw [hb.cell (p:=⟨w.heap.size,1,none⟩) (by simp)];simp
 ·rw [hb.cell (p:=⟨w.heap.size,2,none⟩) (by simp)];simp
theorem parts_of_DT (s:ByteArray) (n:Int) (h0:0≤n) (h1:n≤99999) (h:bts (DT n)=s.data.toList) :
  ∃ x0 x1 x2:ByteArray,Lib.countB s ⟨#[45]⟩=2∧Lib.splitB ⟨#[45]⟩ 0 2 s=[x0,x1,x2]∧x0.size≤300∧x1.size≤300∧x2.size≤300 ∧
   Lib.atoiAll x0.data.toList = .ok (ky (dK n))∧Lib.atoiAll x1.data.toList = .ok (km (dK n))∧Lib.atoiAll x2.data.toList = .ok (dD n):=by
 have hk:=dK_le h0 h1
 have hyb:1900≤ky (dK n)∧ky (dK n)≤2200:=⟨ky_ge _,by unfold ky;omega⟩
 have hmb:=km_bd (dK n)
 have hdb:=dD_bd h0
 have e:s.data.toList=bts (tw (ky (dK n) / 100) ++ tw (ky (dK n) % 100)) ++ 45 :: (bts (tw (km (dK n))) ++ 45 :: bts (tw (dD n))):=by
  rw [← h];exact DT_parts _ _ _
 have dy:Digs (bts (tw (ky (dK n) / 100) ++ tw (ky (dK n) % 100))):=by
  rw [bts_app];exact digs_append (tw_digs _ (by omega) (by omega)) (tw_digs _ (by omega) (by omega))
 have dm:=tw_digs (km (dK n)) (by omega) (by omega)
 have dd:=tw_digs (dD n) (by omega) (by omega)
 obtain ⟨c2,p3⟩:=split_three 45 _ _ _ (digs_not dy 45 (by decide)) (digs_not dm 45 (by decide)) (digs_not dd 45 (by decide))
 rw [← e] at c2 p3
 have hc:Lib.countB s ⟨#[45]⟩=2:=c2
 have hlen:(Lib.splitB ⟨#[45]⟩ 0 2 s).length=3:=Lib.splitB_all ⟨#[45]⟩ (by decide) 0 2 s hc
 obtain ⟨x0,x1,x2,hx⟩:=three_of _ hlen
 have hd:=Lib.splitB_data ⟨#[45]⟩ 0 2 s
 rw [hx] at hd
 have hd2:[x0.data.toList,x1.data.toList,x2.data.toList]=[bts (tw (ky (dK n) / 100) ++ tw (ky (dK n) % 100)),bts (tw (km (dK n))),bts (tw (dD n))]:=hd.trans p3
 simp only [List.cons.injEq,and_true] at hd2
 obtain ⟨q0,q1,q2⟩:=hd2
 refine ⟨x0,x1,x2,hc,hx,?_,?_,?_,?_,?_,?_⟩
 ·rw [← dba_len,q0];show 4≤300;omega
 ·rw [← dba_len,q1];show 2≤300;omega
 ·rw [← dba_len,q2];show 2≤300;omega
 ·rw [q0,atoi_digs _ dy (by simp [bts,tw]) (by rw [dval_tw2 _ (by omega) (by omega)];omega),dval_tw2 _ (by omega) (by omega)]
 ·rw [q1,atoi_digs _ dm (by simp [bts,tw]) (by rw [dval_tw _ (by omega) (by omega)];omega),dval_tw _ (by omega) (by omega)]
 ·rw [q2,atoi_digs _ dd (by simp [bts,tw]) (by rw [dval_tw _ (by omega) (by omega)];omega),dval_tw _ (by omega) (by omega)]
theorem atoi_is (s:ByteArray) (v:Int) (w:World) (hg:Glob w) (hs:s.size≤281474976710656) (h:Lib.atoiAll s.data.toList = .ok v) :
  Calls Tryz.prog 88 #[.string s] w fun e w'=>e = .returned (.tuple #[.int .i64 v,.nilIface])∧Below w.heap.size w w':=by
 refine (atoi_any s w hg hs).mono fun e w' ⟨hh,hb⟩=>?_
 rcases hh with ⟨x,hx,he⟩ | ⟨x,tq,q,hno,_⟩
 ·rw [h] at hx;cases hx;exact ⟨he,hb⟩
 ·exact absurd h (hno v)
set_option maxHeartbeats 4000000 in
theorem rparse_ok (s:ByteArray) (n:Int) (w:World) (hg:Glob w) (h:dparsed s.data.toList=some n) :
  Calls Tryz.prog 54 #[.string s] w fun e w'=>e = .returned (.tuple #[.int .i64 n,.int .i64 0])∧Below w.heap.size w w':=by
 obtain ⟨p1,p2,p3,p4,p5⟩:=dparsed_some h
 have hz:s.size≤300:=by rw [← dba_len,p1];omega
 obtain ⟨x0,x1,x2,c2,hx,z0,z1,z2,t0,t1,t2⟩:=parts_of_DT s n p2 p3 p4
 have HC:=hid c2
 have HX:=hid hx
 have HT0:=hid t0
 have HT1:=hid t1
 have HT2:=hid t2
 have HG:=hid hg
 have HO:=hid (ofDay_is p2 p3)
 have hcmp:((strOfNums (DT n)).toList == s.toList)=true:=by
  rw [ByteArray.toList_eq,ByteArray.toList_eq]
  show ((strOfNums (dtx _ _ _)).data.toList == _)=true
  rw [dtx_data]
  exact beq_iff_eq.2 p4
 clear hg h p1 p4 p5 c2 hx t0 t1 t2
 go_enter Tryz.func54,Tryz.ntmps54
 go_wp2_with fail
 refine (split_3 s x0 x1 x2 _ HG.out hz HC.out HX.out).mono ?_
 rintro e w1 ⟨rfl,hw1⟩
 have b1:Below w1.heap.size (w.alloc (.cells #[.string x0,.string x1,.string x2] 9)) w1:=by rw [hw1];exact Below.refl _ _
 have d1:Below w.heap.size w w1:=by rw [hw1];exact (Below.refl _ _).alloc (Nat.le_refl _) _
 have hw1s:w1.heap.size=(w.alloc (.cells #[.string x0,.string x1,.string x2] 9)).heap.size:=by rw [hw1]
 rw [hw1s] at b1
 clear HC HX hw1
 have HG1:=hid (HG.out.below d1)
 obtain ⟨k0,k1,k2⟩:=alloc3_cells _ _ _ _ _ _ b1
 go_wp2_with fail
 refine (atoi_is x0 (ky (dK n)) _ HG1.out (by omega) HT0.out).mono ?_
 rintro e w2 ⟨rfl,hb2⟩
 have b2:=b1.trans (hb2.mono b1.size)
 have d2:=d1.trans (hb2.mono d1.size)
 have HG2:=hid (HG.out.below d2)
 clear k0 k1 k2 b1 d1 hb2 HG1 HT0 hw1s
 obtain ⟨k0,k1,k2⟩:=alloc3_cells _ _ _ _ _ _ b2
 go_wp2_with fail
 refine (atoi_is x1 (km (dK n)) _ HG2.out (by omega) HT1.out).mono ?_
 rintro e w3 ⟨rfl,hb3⟩
 have b3:=b2.trans (hb3.mono b2.size)
 have d3:=d2.trans (hb3.mono d2.size)
 have HG3:=hid (HG.out.below d3)
 clear k0 k1 k2 b2 d2 hb3 HG2 HT1
 obtain ⟨k0,k1,k2⟩:=alloc3_cells _ _ _ _ _ _ b3
 go_wp2_with fail
 refine (atoi_is x2 (dD n) _ HG3.out (by omega) HT2.out).mono ?_
 rintro e w4 ⟨rfl,hb4⟩
 have d4:=d3.trans (hb4.mono d3.size)
 have HG4:=hid (HG.out.below d4)
 clear k0 k1 k2 b3 d3 hb4 HG3 HT2 HG
 go_wp2_with fail
 refine (rday_ok _ _ _ n _ HO.out).mono ?_
 rintro e w' ⟨rfl,hw⟩
 subst w'
 clear HO
 go_wp2_with fail
 refine (rdate_ok n _ HG4.out p2 p3).mono ?_
 rintro e w5 ⟨rfl,hb5⟩
 have d5:=d4.trans (hb5.mono d4.size)
 clear HG4 d4 hb5
 go_wp2
 go_ret2
 exact ⟨rfl,d5⟩
def ErrV (v:Value):Prop:=v = .nilIface∨∃ (tq:TypeId) (q:Value),v = .iface tq q
theorem atoi_some (s:ByteArray) (w:World) (hg:Glob w) (hs:s.size≤281474976710656) :
  Calls Tryz.prog 88 #[.string s] w fun e w'=>∃ (x:Int) (v:Value),e = .returned (.tuple #[.int .i64 x,v])∧ErrV v∧Below w.heap.size w w':=by
 refine (atoi_any s w hg hs).mono fun e w' ⟨hh,hb⟩=>?_
 rcases hh with ⟨x,_,he⟩ | ⟨x,tq,q,_,he⟩
 ·exact ⟨x,_,he,.inl rfl,hb⟩
 ·exact ⟨x,_,he,.inr ⟨tq,q,rfl⟩,hb⟩
theorem pieces_3 (s:ByteArray) (hs:s.size≤300) (hc:Lib.countB s ⟨#[45]⟩=2):∃ x0 x1 x2:ByteArray,Lib.splitB ⟨#[45]⟩ 0 2 s=[x0,x1,x2]∧x0.size≤300∧x1.size≤300∧x2.size≤300:=by
 have hlen:(Lib.splitB ⟨#[45]⟩ 0 2 s).length=3:=Lib.splitB_all ⟨#[45]⟩ (by decide) 0 2 s hc
 obtain ⟨x0,x1,x2,hx⟩:=three_of _ hlen
 have hd:=Lib.splitB_data ⟨#[45]⟩ 0 2 s
 rw [hx] at hd
 have hl:∀ x:ByteArray,x.data.toList ∈ Lib.splitK [45] 0 2 s.data.toList→x.size≤300:=by
  intro x hm
  have:=piece_le [45] 2 _ _ hm
  rw [dba_len,dba_len] at this;omega
 have hd2:[x0.data.toList,x1.data.toList,x2.data.toList]=Lib.splitK [45] 0 2 s.data.toList:=hd
 refine ⟨x0,x1,x2,hx,hl x0 ?_,hl x1 ?_,hl x2 ?_⟩
 ·rw [← hd2];simp
 ·rw [← hd2];simp
 ·rw [← hd2];simp
set_option maxHeartbeats 4000000 in
theorem rparse_bad (s:ByteArray) (w:World) (hg:Glob w) (hz:s.size≤300) (h:dparsed s.data.toList=none) :
  Calls Tryz.prog 54 #[.string s] w fun e w'=>e = .returned (.tuple #[.int .i64 0,.int .i64 3])∧Below w.heap.size w w':=by
 have HG:=hid hg
 have HN:=hid (dparsed_none h)
 clear hg h
 by_cases hc:Lib.countB s ⟨#[45]⟩=2
 ·obtain ⟨x0,x1,x2,hx,z0,z1,z2⟩:=pieces_3 s hz hc
  have HC:=hid hc
  have HX:=hid hx
  clear hc hx
  go_enter Tryz.func54,Tryz.ntmps54
  go_wp2_with fail
  refine (split_3 s x0 x1 x2 _ HG.out hz HC.out HX.out).mono ?_
  rintro e w1 ⟨rfl,hw1⟩
  have b1:Below w1.heap.size (w.alloc (.cells #[.string x0,.string x1,.string x2] 9)) w1:=by rw [hw1];exact Below.refl _ _
  have d1:Below w.heap.size w w1:=by rw [hw1];exact (Below.refl _ _).alloc (Nat.le_refl _) _
  have hw1s:w1.heap.size=(w.alloc (.cells #[.string x0,.string x1,.string x2] 9)).heap.size:=by rw [hw1]
  rw [hw1s] at b1
  clear HC HX hw1
  have HG1:=hid (HG.out.below d1)
  obtain ⟨k0,k1,k2⟩:=alloc3_cells _ _ _ _ _ _ b1
  go_wp2_with fail
  refine (atoi_some x0 _ HG1.out (by omega)).mono ?_
  rintro e w2 ⟨y,e0,rfl,he0,hb2⟩
  have HE0:=hid he0
  have b2:=b1.trans (hb2.mono b1.size)
  have d2:=d1.trans (hb2.mono d1.size)
  have HG2:=hid (HG.out.below d2)
  clear k0 k1 k2 b1 d1 hb2 HG1 hw1s he0
  obtain ⟨k0,k1,k2⟩:=alloc3_cells _ _ _ _ _ _ b2
  go_wp2_with fail
  refine (atoi_some x1 _ HG2.out (by omega)).mono ?_
  rintro e w3 ⟨m,e1,rfl,he1,hb3⟩
  have HE1:=hid he1
  have b3:=b2.trans (hb3.mono b2.size)
  have d3:=d2.trans (hb3.mono d2.size)
  have HG3:=hid (HG.out.below d3)
  clear k0 k1 k2 b2 d2 hb3 HG2 he1
  obtain ⟨k0,k1,k2⟩:=alloc3_cells _ _ _ _ _ _ b3
  go_wp2_with fail
  refine (atoi_some x2 _ HG3.out (by omega)).mono ?_
  rintro e w4 ⟨d,e2,rfl,he2,hb4⟩
  have HE2:=hid he2
  have d4:=d3.trans (hb4.mono d3.size)
  have HG4:=hid (HG.out.below d4)
  clear k0 k1 k2 b3 d3 hb4 HG3 HG he2
  rcases ho:ofDay y m d with _ | n
  ·have HO:=hid ho
   clear ho HN
   go_wp2_with fail
   refine (rday_bad y m d _ HO.out).mono ?_
   rintro e w' ⟨rfl,hw⟩
   subst w'
   clear HO
   rcases HE0.out with rfl | ⟨t0,q0,rfl⟩
   ·rcases HE1.out with rfl | ⟨t1,q1,rfl⟩
    ·rcases HE2.out with rfl | ⟨t2,q2,rfl⟩
     ·clear HE0 HE1 HE2
      go_wp2
      go_ret2
      exact ⟨rfl,d4⟩
     ·clear HE0 HE1 HE2
      go_wp2
      go_ret2
      exact ⟨rfl,d4⟩
    ·clear HE0 HE1 HE2
     go_wp2
     go_ret2
     exact ⟨rfl,d4⟩
   ·clear HE0 HE1 HE2
    go_wp2
    go_ret2
    exact ⟨rfl,d4⟩
  ·have HO:=hid ho
   have hn:=ofDay_some ho
   have h2:=hn.2.2.2.2.2.2.2.1
   have h3:=hn.2.2.2.2.2.2.2.2.1
   clear ho hn
   have hcmp:((strOfNums (DT n)).toList == s.toList)=false:=by
    rw [ByteArray.toList_eq,ByteArray.toList_eq]
    show ((strOfNums (dtx _ _ _)).data.toList == _)=false
    rw [dtx_data]
    exact beq_eq_false_iff_ne.2 (HN.out n h2 h3)
   clear HN
   go_wp2_with fail
   refine (rday_ok y m d n _ HO.out).mono ?_
   rintro e w' ⟨rfl,hw⟩
   subst w'
   clear HO
   rcases HE0.out with rfl | ⟨t0,q0,rfl⟩
   ·rcases HE1.out with rfl | ⟨t1,q1,rfl⟩
    ·rcases HE2.out with rfl | ⟨t2,q2,rfl⟩
     ·clear HE0 HE1 HE2
      go_wp2_with fail
      refine (rdate_ok n _ HG4.out h2 h3).mono ?_
      rintro e w5 ⟨rfl,hb5⟩
      have d5:=d4.trans (hb5.mono d4.size)
      clear HG4 d4 hb5
      go_wp2
      go_ret2
      exact ⟨rfl,d5⟩
     ·clear HE0 HE1 HE2
      go_wp2
      go_ret2
      exact ⟨rfl,d4⟩
    ·clear HE0 HE1 HE2
     go_wp2
     go_ret2
     exact ⟨rfl,d4⟩
   ·clear HE0 HE1 HE2
    go_wp2
    go_ret2
    exact ⟨rfl,d4⟩
 ·clear HN
  go_enter Tryz.func54,Tryz.ntmps54
  go_wp2_with fail
  refine (split_other s _ HG.out hz hc).mono ?_
  rintro e w1 ⟨c,rfl,hc3,hc4,hb1⟩
  clear HG hc
  go_wp2
  go_ret2
  exact ⟨rfl,hb1⟩
def numR (l:List UInt8):Int:=match Lib.atoiAll l with
 | .ok v=>v
 | .syntax=>0
 | .range=>Lib.atoiSat l
theorem numR_bd (l:List UInt8) : -9223372036854775808≤numR l∧numR l≤9223372036854775807:=by
 unfold numR
 rcases e:Lib.atoiAll l with v | _ | _
 ·exact Lib.atoiAll_bounds e
 ·show -9223372036854775808≤(0:Int)∧(0:Int)≤9223372036854775807;omega
 ·show -9223372036854775808≤Lib.atoiSat l∧Lib.atoiSat l≤9223372036854775807
  unfold Lib.atoiSat
  split <;> omega
theorem atoiR (s:ByteArray) (w:World) (hg:Glob w) (hs:s.size≤281474976710656) :
  Calls Tryz.prog 88 #[.string s] w fun e w'=>∃ v:Value,e = .returned (.tuple #[.int .i64 (numR s.data.toList),v])∧Below w.heap.size w w':=by
 obtain ⟨tp,p,hsyn⟩:=hg.syn
 obtain ⟨tr,r,hrng⟩:=hg.rng
 unfold numR
 rcases h:Lib.atoiAll s.data.toList with v | _ | _
 ·refine (Tryz.strconv_Atoi_ok s (by omega) v h w).mono fun e w' ⟨he,hw⟩=>?_
  refine ⟨_,he,?_⟩
  rcases hw with rfl | ⟨t,rfl⟩
  ·exact Below.refl _ _
  ·exact Go.Joins.below_bytesWorld _ _ _ _ (Nat.le_refl _)
 ·refine (Any.strconv_Atoi_syntax_var Tryz.laysC172 s hs h tp p w hsyn).mono fun e w' ⟨N,he,_,_,hb⟩=>?_
  exact ⟨_,he,hb⟩
 ·refine (Tryz.strconv_Atoi_range_var s hs h tr r w hrng).mono fun e w' ⟨N,he,_,_,hb⟩=>?_
  exact ⟨_,he,hb⟩
def dayR (l:List UInt8):Int:=(dparsed l).getD 0
def amtR (l:List UInt8):Int:=(parsed l).getD 0
theorem dateR (s:ByteArray) (w:World) (hg:Glob w) (hs:s.size≤300) :
  Calls Tryz.prog 54 #[.string s] w fun e w'=>∃ v:Value,e = .returned (.tuple #[.int .i64 (dayR s.data.toList),v])∧Below w.heap.size w w':=by
 unfold dayR
 rcases h:dparsed s.data.toList with _ | n
 ·exact (rparse_bad s w hg hs h).mono fun e w' ⟨he,hb⟩=>⟨_,he,hb⟩
 ·exact (rparse_ok s n w hg h).mono fun e w' ⟨he,hb⟩=>⟨_,he,hb⟩
theorem amountR (s:ByteArray) (w:World) (hg:Glob w) (hs:s.size≤300) :
  Calls Tryz.prog 91 #[.string s] w fun e w'=>∃ v:Value,e = .returned (.tuple #[.int .i64 (amtR s.data.toList),v])∧Below w.heap.size w w':=by
 unfold amtR
 rcases h:parsed s.data.toList with _ | n
 ·exact (refParse_bad s w hg (by omega) h).mono fun e w' ⟨he,hb⟩=>⟨_,he,hb⟩
 ·exact (refParse_ok s n w hg h).mono fun e w' ⟨he,hb⟩=>⟨_,he,hb⟩
def rread (ps:List (List UInt8)):Ev:=
 {id:=0,day:=dayR (ps.getD 0 []),kind:=kindOf (ps.getD 1 []),item:=eb (ps.getD 2 []),
  qty:=if kindOf (ps.getD 1 [])=2 then 0 else numR (ps.getD 3 []),
  price:=if kindOf (ps.getD 1 [])=1 then amtR (ps.getD 5 []) else if kindOf (ps.getD 1 [])=2 then amtR (ps.getD 3 []) else 0,
  ofI:=if kindOf (ps.getD 1 [])=2 then numR (ps.getD 5 []) else 0 }
theorem numR_itoa (n:Int) (h:0≤n) (h':n≤9223372036854775807):numR (Lib.itoa n)=n:=by
 unfold numR;rw [atoi_itoa n h h']
theorem rread_ET (e:Ev) (h:Rt e):rread (ps (ET e))={ e with id:=0 }:=by
 rw [ps_ET e h,ps_nums h.2.2]
 obtain ⟨hn,⟨d0,d1⟩,hk⟩:=h
 obtain ⟨id,item,kind,qty,price,ofI,day⟩:=e
 simp only at hn d0 d1 hk ⊢
 have hd:dayR (bts (DT day))=day:=by unfold dayR;rw [dparsed_DT d0 d1];rfl
 have hw:=kindOf_word (rtK_kind hk)
 have hp:0≤price→price≤100000000000→amtR (byt (amt price))=price:=by
  intro a b;unfold amtR;rw [parsed_amt price (by omega) (by omega)];rfl
 rcases hk with ⟨rfl,⟨a,b⟩,⟨c,d⟩,rfl⟩ | ⟨rfl,rfl,⟨c,d⟩,⟨f,g⟩⟩ | ⟨rfl,⟨a,b⟩,rfl,rfl⟩ | ⟨rfl,⟨a,b⟩,rfl,rfl⟩
 ·simp [rread,hd,hw,eb_data,numR_itoa qty (by omega) (by omega),hp c (by omega)]
 ·simp [rread,hd,hw,eb_data,numR_itoa ofI (by omega) (by omega),hp (by omega) (by omega)]
 ·simp [rread,hd,hw,eb_data,numR_itoa qty (by omega) (by omega)]
 ·simp [rread,hd,hw,eb_data,numR_itoa qty (by omega) (by omega)]
theorem reads_rread {l:List UInt8} {e:Ev} (h:Reads l e):rread (ps l)=e:=by
 obtain ⟨h1,h2,rfl⟩:=h
 rw [rread_ET e h1]
 obtain ⟨id,item,kind,qty,price,ofI,day⟩:=e
 simp only at h2
 rw [h2]
def breadR (l:List ByteArray):Ev:=rread (l.map fun b=>b.data.toList)
theorem breadR_ps (s:ByteArray):breadR (parts s)=rread (ps s.data.toList):=by unfold breadR;rw [parts_ps]
theorem amtR_bd (l:List UInt8) : -9223372036854775808≤amtR l∧amtR l≤9223372036854775807:=by
 unfold amtR
 rcases e:parsed l with _ | n
 ·show -9223372036854775808≤(0:Int)∧(0:Int)≤9223372036854775807;omega
 ·have:=parsed_some e
  show -9223372036854775808≤n∧n≤9223372036854775807;omega
theorem dayR_bd (l:List UInt8) : -9223372036854775808≤dayR l∧dayR l≤9223372036854775807:=by
 unfold dayR
 rcases e:dparsed l with _ | n
 ·show -9223372036854775808≤(0:Int)∧(0:Int)≤9223372036854775807;omega
 ·have:=dparsed_some e
  show -9223372036854775808≤n∧n≤9223372036854775807;omega
theorem rread_w (ps:List (List UInt8)) (h:(ps.getD 2 []).length≤1000):EvW (rread ps):=by
 have k:=kindOf_bd (ps.getD 1 [])
 have d:=dayR_bd (ps.getD 0 [])
 have n3:=numR_bd (ps.getD 3 [])
 have n5:=numR_bd (ps.getD 5 [])
 have m3:=amtR_bd (ps.getD 3 [])
 have m5:=amtR_bd (ps.getD 5 [])
 refine ⟨wf_of (show -9223372036854775808≤(0:Int) by decide) (show (0:Int)≤9223372036854775807 by decide),?_,wf_of (by show _≤kindOf _;omega) (by show kindOf _≤_;omega),?_,?_,?_,wf_of d.1 d.2⟩
 ·show (eb (ps.getD 2 [])).size≤maxLen
  have e:(eb (ps.getD 2 [])).size=(ps.getD 2 []).length:=by rw [← dba_len];rfl
  rw [e];unfold maxLen;omega
 ·show (Lit.int .i64 (if _ then _ else _)).wf=true
  split
  ·exact wf_of (by decide) (by decide)
  ·exact wf_of n3.1 n3.2
 ·show (Lit.int .i64 (if _ then _ else _)).wf=true
  split
  ·exact wf_of m5.1 m5.2
  ·split
   ·exact wf_of m3.1 m3.2
   ·exact wf_of (by decide) (by decide)
 ·show (Lit.int .i64 (if _ then _ else _)).wf=true
  split
  ·exact wf_of n5.1 n5.2
  ·exact wf_of (by decide) (by decide)
theorem breadR_w (s:ByteArray) (hs:s.size≤300):EvW (breadR (parts s)):=by
 apply rread_w
 rw [getD_map,dba_len]
 have:=ps_short s 2;omega
def olds6 (l:List ByteArray):List Value:=l.map Value.string ++ List.replicate 6 (.string ⟨#[]⟩)
theorem olds6_at (l:List ByteArray) (j:Nat) (hj:j < 6):(olds6 l)[j]?=some (.string (l.getD j ⟨#[]⟩)):=by
 unfold olds6
 rw [List.getElem?_append]
 split
 ·rename_i h
  have h':j < l.length:=by simpa using h
  simp [List.getD,h']
 ·rename_i h
  have h':l.length≤j:=by simpa using h
  rw [List.getElem?_replicate]
  rw [if_pos (by simp;omega),List.getD,List.getElem?_eq_none h'];rfl
theorem Tryz.infoStr:(Tryz.prog.info? 9).map (fun i=>(i.zero,i.size,i.bytes))=some (some (.string ⟨#[]⟩),1,16):=by kernel_rfl
theorem addr_add (b j:Nat):(⟨b,0,none⟩:Addr).add j=⟨b,j,none⟩:=by
 by_cases h:j=0
 ·subst h;simp [Addr.add]
 ·simp [Addr.add,h]
theorem own_form1 {w:World} {base:Nat} {e:TypeId} {v:Value} {n:Nat} {xs:List Value} (h:w.ownsRow base e 1 v n xs) (hn:0 < n) :
  ∃ g cap:Nat,v = .slice (some ⟨g,0,none⟩) n cap∧base≤g∧g < w.heap.size∧(∀ j,j < n→w.cell? ⟨g,j,none⟩=xs[j]?)∧n≤cap∧cap≤maxLen:=by
 have h0:=h
 rcases h.2 with ⟨_,h2⟩ | ⟨g,cap,cur,rfl,hb,hg,hnc,hcm,_,_⟩
 ·omega
 ·refine ⟨g,cap,rfl,hb,?_,fun j hj=>h0.cellAt j (by omega),hnc,hcm⟩
  rcases Nat.lt_or_ge g w.heap.size with h | h
  ·exact h
  ·rw [Array.getElem?_eq_none h] at hg;cases hg
structure SixAt (w:World) (g:Nat) (p0 p1 p2 p3 p5:ByteArray):Prop where
 c0:w.cell? ⟨g,0,none⟩=some (.string p0)
 c1:w.cell? ⟨g,1,none⟩=some (.string p1)
 c2:w.cell? ⟨g,2,none⟩=some (.string p2)
 c3:w.cell? ⟨g,3,none⟩=some (.string p3)
 c5:w.cell? ⟨g,5,none⟩=some (.string p5)
theorem SixAt.below {w w':World} {g:Nat} {p0 p1 p2 p3 p5:ByteArray} (h:SixAt w g p0 p1 p2 p3 p5) (hb:Below w.heap.size w w'):SixAt w' g p0 p1 p2 p3 p5:=
 ⟨below_cell hb h.c0,below_cell hb h.c1,below_cell hb h.c2,below_cell hb h.c3,below_cell hb h.c5⟩
theorem keepS {w:World} {a p:Addr} {v x:Value} (h:w.cell? p=some x) (hne:a ≠ p):(w.setCell a v).cell? p=some x:=by
 rw [World.cell?_setCell_other (h:=hne)];exact h
theorem ne_block {b c i j:Nat} (h:¬ b=c):(⟨b,i,none⟩:Addr) ≠ ⟨c,j,none⟩:=fun e=>h (congrArg Addr.block e)
theorem ne_off {b i j:Nat} (h:¬ i=j):(⟨b,i,none⟩:Addr) ≠ ⟨b,j,none⟩:=fun e=>h (congrArg Addr.off e)
theorem SixAt.other {w:World} {g c k:Nat} {p0 p1 p2 p3 p5:ByteArray} {v:Value} (h:SixAt w g p0 p1 p2 p3 p5) (hne:¬ c=g):SixAt (w.setCell ⟨c,k,none⟩ v) g p0 p1 p2 p3 p5:=
 ⟨keepS h.c0 (ne_block hne),keepS h.c1 (ne_block hne),keepS h.c2 (ne_block hne),keepS h.c3 (ne_block hne),keepS h.c5 (ne_block hne)⟩
theorem EvF.other {w:World} {b c k:Nat} {e:Ev} {v:Value} (h:EvF w b e) (hne:¬ c=b):EvF (w.setCell ⟨c,k,none⟩ v) b e:=
 ⟨⟨keepS h.ev.c0 (ne_block hne),keepS h.ev.c1 (ne_block hne),keepS h.ev.c2 (ne_block hne),keepS h.ev.c3 (ne_block hne),keepS h.ev.c4 (ne_block hne),keepS h.ev.c5 (ne_block hne),keepS h.ev.c6 (ne_block hne)⟩,fun k=>by rw [World.frozen?_setCell];exact h.fz k⟩
theorem EvF.set2 {w:World} {b:Nat} {e:Ev} (h:EvF w b e) (x:Int):EvF (w.setCell ⟨b,2,none⟩ (.int .i64 x)) b { e with kind:=x }:=
 ⟨⟨keepS h.ev.c0 (ne_off (by decide)),keepS h.ev.c1 (ne_off (by decide)),World.cell?_setCell_same _ _ _ h.ev.c2,keepS h.ev.c3 (ne_off (by decide)),keepS h.ev.c4 (ne_off (by decide)),keepS h.ev.c5 (ne_off (by decide)),keepS h.ev.c6 (ne_off (by decide))⟩,fun k=>by rw [World.frozen?_setCell];exact h.fz k⟩
theorem EvF.set3 {w:World} {b:Nat} {e:Ev} (h:EvF w b e) (x:Int):EvF (w.setCell ⟨b,3,none⟩ (.int .i64 x)) b { e with qty:=x }:=
 ⟨⟨keepS h.ev.c0 (ne_off (by decide)),keepS h.ev.c1 (ne_off (by decide)),keepS h.ev.c2 (ne_off (by decide)),World.cell?_setCell_same _ _ _ h.ev.c3,keepS h.ev.c4 (ne_off (by decide)),keepS h.ev.c5 (ne_off (by decide)),keepS h.ev.c6 (ne_off (by decide))⟩,fun k=>by rw [World.frozen?_setCell];exact h.fz k⟩
theorem EvF.set4 {w:World} {b:Nat} {e:Ev} (h:EvF w b e) (x:Int):EvF (w.setCell ⟨b,4,none⟩ (.int .i64 x)) b { e with price:=x }:=
 ⟨⟨keepS h.ev.c0 (ne_off (by decide)),keepS h.ev.c1 (ne_off (by decide)),keepS h.ev.c2 (ne_off (by decide)),keepS h.ev.c3 (ne_off (by decide)),World.cell?_setCell_same _ _ _ h.ev.c4,keepS h.ev.c5 (ne_off (by decide)),keepS h.ev.c6 (ne_off (by decide))⟩,fun k=>by rw [World.frozen?_setCell];exact h.fz k⟩
theorem EvF.set5 {w:World} {b:Nat} {e:Ev} (h:EvF w b e) (x:Int):EvF (w.setCell ⟨b,5,none⟩ (.int .i64 x)) b { e with ofI:=x }:=
 ⟨⟨keepS h.ev.c0 (ne_off (by decide)),keepS h.ev.c1 (ne_off (by decide)),keepS h.ev.c2 (ne_off (by decide)),keepS h.ev.c3 (ne_off (by decide)),keepS h.ev.c4 (ne_off (by decide)),World.cell?_setCell_same _ _ _ h.ev.c5,keepS h.ev.c6 (ne_off (by decide))⟩,fun k=>by rw [World.frozen?_setCell];exact h.fz k⟩
theorem EvF.set6 {w:World} {b:Nat} {e:Ev} (h:EvF w b e) (x:Int):EvF (w.setCell ⟨b,6,none⟩ (.int .i64 x)) b { e with day:=x }:=
 ⟨⟨keepS h.ev.c0 (ne_off (by decide)),keepS h.ev.c1 (ne_off (by decide)),keepS h.ev.c2 (ne_off (by decide)),keepS h.ev.c3 (ne_off (by decide)),keepS h.ev.c4 (ne_off (by decide)),keepS h.ev.c5 (ne_off (by decide)),World.cell?_setCell_same _ _ _ h.ev.c6⟩,fun k=>by rw [World.frozen?_setCell];exact h.fz k⟩
theorem four_at (V:World) (a b c d:Value) (t:TypeId):(V.alloc (.cells #[a,b,c,d] t)).cell? ⟨V.heap.size,0,none⟩=some a∧(V.alloc (.cells #[a,b,c,d] t)).cell? ⟨V.heap.size,1,none⟩=some b∧(V.alloc (.cells #[a,b,c,d] t)).cell? ⟨V.heap.size,2,none⟩=some c∧(V.alloc (.cells #[a,b,c,d] t)).cell? ⟨V.heap.size,3,none⟩=some d:=by simp
theorem setC_size (w:World) (a:Addr) (v:Value):(w.setCell a v).heap.size=w.heap.size:=by simp
set_option maxHeartbeats 16000000 in
set_option maxRecDepth 20000 in
theorem revent_gen (s t:ByteArray) (kx:Int) (out:Ev) (kk:Int) (w:World) (hg:GlobN w) (hl:Glob w) (hs:s.size≤300)
  (hT:∀ v,Glob v→Calls Tryz.prog 92 #[evV (breadR (parts s))] v fun x w'=>x = .returned (.tuple #[.string t,.int .i64 kx])∧Below v.heap.size v w')
  (hend:(kx=0∧(t.toList == s.toList)=true∧out=breadR (parts s)∧kk=0)∨(kx=0∧(t.toList == s.toList)=false∧out=ev0∧kk=3)∨(kx=1∧out=ev0∧kk=3)) :
  Calls Tryz.prog 49 #[.string s] w fun x w'=>x = .returned (.tuple #[evV out,.int .i64 kk])∧Below w.heap.size w w':=by
 obtain ⟨i0,hi,hz0,hz1,hz2⟩:=info_parts Tryz.infoStr
 have hfew:=parts_few s
 have HS:=hidN hs
 have HG:=hidN hl
 have HN:=hidN hg
 obtain ⟨p0,hp0⟩:∃ x,(parts s).getD 0 ⟨#[]⟩=x:=⟨_,rfl⟩
 obtain ⟨p1,hp1⟩:∃ x,(parts s).getD 1 ⟨#[]⟩=x:=⟨_,rfl⟩
 obtain ⟨p2,hp2⟩:∃ x,(parts s).getD 2 ⟨#[]⟩=x:=⟨_,rfl⟩
 obtain ⟨p3,hp3⟩:∃ x,(parts s).getD 3 ⟨#[]⟩=x:=⟨_,rfl⟩
 obtain ⟨p5,hp5⟩:∃ x,(parts s).getD 5 ⟨#[]⟩=x:=⟨_,rfl⟩
 have z0:=ps_short s 0
 have z3:=ps_short s 3
 have z5:=ps_short s 5
 rw [hp0] at z0
 rw [hp3] at z3
 rw [hp5] at z5
 have HO:Hid ((olds6 (parts s))[0]?=some (.string p0)∧(olds6 (parts s))[1]?=some (.string p1)∧(olds6 (parts s))[2]?=some (.string p2)∧(olds6 (parts s))[3]?=some (.string p3)∧(olds6 (parts s))[5]?=some (.string p5)):=
  ⟨by rw [olds6_at _ 0 (by omega),hp0],by rw [olds6_at _ 1 (by omega),hp1],by rw [olds6_at _ 2 (by omega),hp2],by rw [olds6_at _ 3 (by omega),hp3],by rw [olds6_at _ 5 (by omega),hp5]⟩
 have hR:breadR (parts s)={ id:=0,day:=dayR p0.data.toList,kind:=kindOf p1.data.toList,item:=p2,qty:=if kindOf p1.data.toList=2 then 0 else numR p3.data.toList,price:=if kindOf p1.data.toList=1 then amtR p5.data.toList else if kindOf p1.data.toList=2 then amtR p3.data.toList else 0,ofI:=if kindOf p1.data.toList=2 then numR p5.data.toList else 0 }:=by
  unfold breadR rread
  rw [getD_map,getD_map,getD_map,getD_map,getD_map,hp0,hp1,hp2,hp3,hp5,eb_data]
 rw [hR] at hT hend
 clear hR hp0 hp1 hp2 hp3 hp5
 have HD:=fun v hv=>hidN (dateR p0 v hv (by omega))
 have HA3:=fun v hv=>hidN (atoiR p3 v hv (by omega))
 have HA5:=fun v hv=>hidN (atoiR p5 v hv (by omega))
 have HM3:=fun v hv=>hidN (amountR p3 v hv (by omega))
 have HM5:=fun v hv=>hidN (amountR p5 v hv (by omega))
 obtain ⟨d,hd⟩:∃ x,dayR p0.data.toList=x:=⟨_,rfl⟩
 obtain ⟨n3,hn3⟩:∃ x,numR p3.data.toList=x:=⟨_,rfl⟩
 obtain ⟨n5,hn5⟩:∃ x,numR p5.data.toList=x:=⟨_,rfl⟩
 obtain ⟨m3,hm3⟩:∃ x,amtR p3.data.toList=x:=⟨_,rfl⟩
 obtain ⟨m5,hm5⟩:∃ x,amtR p5.data.toList=x:=⟨_,rfl⟩
 rw [hd] at HD hT hend
 rw [hn3] at HA3 hT hend
 rw [hn5] at HA5 hT hend
 rw [hm3] at HM3 hT hend
 rw [hm5] at HM5 hT hend
 have q1:=word_eq (wordOf 1) p1
 have q2:=word_eq (wordOf 2) p1
 have q3:=word_eq (wordOf 3) p1
 have q4:=word_eq (wordOf 4) p1
 obtain ⟨x1,hx1⟩:∃ x,x=eb (wordOf 1):=⟨_,rfl⟩
 obtain ⟨x2,hx2⟩:∃ x,x=eb (wordOf 2):=⟨_,rfl⟩
 obtain ⟨x3,hx3⟩:∃ x,x=eb (wordOf 3):=⟨_,rfl⟩
 obtain ⟨x4,hx4⟩:∃ x,x=eb (wordOf 4):=⟨_,rfl⟩
 rw [← hx1] at q1
 rw [← hx2] at q2
 rw [← hx3] at q3
 rw [← hx4] at q4
 have HX:Hid ((⟨#[105,110]⟩:ByteArray)=x1∧(⟨#[99,104,97,114,103,101]⟩:ByteArray)=x2∧(⟨#[111,117,116]⟩:ByteArray)=x3∧(⟨#[99,111,117,110,116]⟩:ByteArray)=x4):=⟨hx1.symm,hx2.symm,hx3.symm,hx4.symm⟩
 have HT:=hidN hT
 have HE:=hidN hend
 have Q1:=hidN q1
 have Q2:=hidN q2
 have Q3:=hidN q3
 have Q4:=hidN q4
 clear hd hn3 hn5 hm3 hm5 z0 z3 z5 hg hl hs hT hend hx1 hx2 hx3 hx4 q1 q2 q3 q4
 obtain ⟨W0,hW0⟩:∃ W,W=w.alloc (.cells #[.int .i64 0,.string ⟨#[]⟩,.int .i64 0,.int .i64 0,.int .i64 0,.int .i64 0,.int .i64 0] 78):=⟨_,rfl⟩
 have hB0:Below w.heap.size w W0:=by rw [hW0];exact (Below.refl _ _).alloc (Nat.le_refl _) _
 have hR0:EvF W0 w.heap.size ⟨0,⟨#[]⟩,0,0,0,0,0⟩:=by
  refine ⟨?_,fun k=>?_⟩
  ·rw [hW0];constructor <;> simp
  ·rw [hW0];simp
 go_enter Tryz.func49,Tryz.ntmps49
 go_wp2_with fail
 rw [← hW0]
 clear hW0
 refine (splitN s _ (HN.out.below hB0) (by have:=HS.out;omega)).mono ?_
 rintro x W1 ⟨rfl,hw1⟩
 have hb1:Below W0.heap.size W0 W1:=by rw [hw1];exact (Below.refl _ _).alloc (Nat.le_refl _) _
 have hC1:∀ k:Nat,k < (parts s).length→W1.cell? ⟨W0.heap.size,k,none⟩=some (.string ((parts s).getD k ⟨#[]⟩)):=by
  intro k hk
  rw [hw1];exact cells_alloc W0 (parts s) k hk
 have hB1:=hB0.trans (hb1.mono hB0.size)
 have hR1:=hR0.below hb1
 clear hw1 hb1 hR0 hB0
 have hbV:Below W1.heap.size W1 (W1.alloc (.cells #[.string ⟨#[]⟩,.string ⟨#[]⟩,.string ⟨#[]⟩,.string ⟨#[]⟩,.string ⟨#[]⟩,.string ⟨#[]⟩] 9)):=(Below.refl _ _).alloc (Nat.le_refl _) _
 have H1:Hid (∀ b,(some ⟨W0.heap.size,0,none⟩:Option Addr)=some b→∀ (j:Nat) (u:Value),((parts s).map Value.string)[j]?=some u→(W1.alloc (.cells #[.string ⟨#[]⟩,.string ⟨#[]⟩,.string ⟨#[]⟩,.string ⟨#[]⟩,.string ⟨#[]⟩,.string ⟨#[]⟩] 9)).cell? (b.add j)=some u):=by
  intro b hb j u hu
  cases hb
  rw [List.getElem?_map] at hu
  rcases hj:(parts s)[j]? with _ | y
  ·rw [hj] at hu;cases hu
  ·rw [hj] at hu
   have hlt:j < (parts s).length:=(List.getElem?_eq_some_iff.1 hj).1
   have:=below_cell hbV (hC1 j hlt)
   rw [List.getD,hj] at this
   cases hu
   rw [addr_add];exact this
 have H2:Hid (∀ (j:Nat) (u:Value),(List.replicate 6 (Value.string ⟨#[]⟩))[j]?=some u→(W1.alloc (.cells #[.string ⟨#[]⟩,.string ⟨#[]⟩,.string ⟨#[]⟩,.string ⟨#[]⟩,.string ⟨#[]⟩,.string ⟨#[]⟩] 9)).cell? ((⟨W1.heap.size,0,none⟩:Addr).add j)=some u):=by
  intro j u hu
  have hj:j < 6:=by have:=(List.getElem?_eq_some_iff.1 hu).1;simpa using this
  have:j=0∨j=1∨j=2∨j=3∨j=4∨j=5:=by omega
  rcases this with rfl | rfl | rfl | rfl | rfl | rfl <;> (cases hu;rw [addr_add];simp)
 have H3:Hid (∀ u ∈ List.replicate 6 (Value.string ⟨#[]⟩),u.oneCell'=true):=by
  intro u hu
  rw [List.eq_of_mem_replicate hu];rfl
 have hB2:=hB1.trans (hbV.mono hB1.size)
 have h300:=HS.out
 go_wp2_with (at_builtin;refine wpList_append_grows _ rfl _ _ 22 rfl 9 i0 (.string ⟨#[]⟩) 1 16 Tryz.underlying22 hi hz0 hz1 hz2 rfl (by decide) (some ⟨W0.heap.size,0,none⟩) (parts s).length (parts s).length ((parts s).map Value.string) rfl (by simp) (by simp) H1.out ⟨W1.heap.size,0,none⟩ 6 6 (List.replicate 6 (.string ⟨#[]⟩)) rfl rfl H2.out H3.out (by omega) (by unfold maxLen;omega) (by omega) ?_;intro v' W3 hown hgrow;obtain ⟨g,cap,rfl,hgb,hgl,hgc,hnc,hcm⟩:=own_form1 hown (by omega);have hB3:=hB2.grown hgrow hB2.size (by simp);have hbG:=(Below.refl _ _).grown hgrow (Nat.le_refl _) (by simp);have hS3:SixAt W3 g p0 p1 p2 p3 p5:=⟨(hgc 0 (by omega)).trans HO.out.1,(hgc 1 (by omega)).trans HO.out.2.1,(hgc 2 (by omega)).trans HO.out.2.2.1,(hgc 3 (by omega)).trans HO.out.2.2.2.1,(hgc 5 (by omega)).trans HO.out.2.2.2.2⟩;have hR3:=(hR1.below hbV).below hbG;have u0:=hS3.c0;have u2:=hS3.c2;have hne:¬ W3.heap.size=g:=(by omega);have hne':¬ g=W3.heap.size:=(by omega);clear hown hgrow hgc H1 H2 H3 hbV hB2 hB1 hbG hC1 hi hz0 hz1 hz2)
 have hrg:¬ g=w.heap.size:=by
  have:=World.block_lt_of_cell? _ _ hR1.ev.c0
  simp at this hgb
  omega
 have hrlt:=World.block_lt_of_cell? _ _ hR3.ev.c0
 simp only at hrlt
 obtain ⟨W4,hW4⟩:∃ W,W=W3.alloc (.cells #[.int .i64 0,.string p2,.int .i64 0,.int .i64 0,.int .i64 0,.int .i64 0,.int .i64 0] 78):=⟨_,rfl⟩
 have hb4:Below W3.heap.size W3 W4:=by rw [hW4];exact (Below.refl _ _).alloc (Nat.le_refl _) _
 have hX4:EvF W4 W3.heap.size ⟨0,p2,0,0,0,0,0⟩:=by
  refine ⟨?_,fun k=>?_⟩
  ·rw [hW4];constructor <;> simp
  ·rw [hW4];simp
 obtain ⟨xb,hxb⟩:∃ x,x=W3.heap.size:=⟨_,rfl⟩
 rw [← hW4]
 rw [← hxb] at hX4 hne hne' ⊢
 have hB4:=hB3.trans (hb4.mono hB3.size)
 have hS4:=hS3.below hb4
 have hR4:=hR3.below hb4
 have hxr:¬ xb=w.heap.size:=by omega
 have hxr':¬ w.heap.size=xb:=by omega
 have hxle:w.heap.size≤xb:=by omega
 clear hW4 hb4 hS3 hR3 hR1 hB3 u0 u2 hxb hgb hgl hcm HO hrlt
 refine (HD _ (HG.out.below hB4)).out.mono ?_
 rintro x W5 ⟨v5,rfl,hb5⟩
 have hB5:=hB4.trans (hb5.mono hB4.size)
 have hS5:=hS4.below hb5
 have hR5:=hR4.below hb5
 have hX5:=hX4.below hb5
 clear hB4 hS4 hR4 hX4 hb5 HD
 have u6:=hX5.ev.c6
 have uf:=hX5.fz
 simp only at u6
 go_wp2_with fail
 clear u6 uf
 obtain ⟨W6,hW6⟩:∃ W,W=(W5.setCell ⟨xb,6,none⟩ (.int .i64 d)).alloc (.cells #[.string ⟨#[105,110]⟩,.string ⟨#[99,104,97,114,103,101]⟩,.string ⟨#[111,117,116]⟩,.string ⟨#[99,111,117,110,116]⟩] 9):=⟨_,rfl⟩
 rw [← hW6]
 have hbs:Below w.heap.size w (W5.setCell ⟨xb,6,none⟩ (.int .i64 d)):=hB5.setCell hxle _
 have hba:Below (W5.setCell ⟨xb,6,none⟩ (.int .i64 d)).heap.size (W5.setCell ⟨xb,6,none⟩ (.int .i64 d)) W6:=by rw [hW6];exact (Below.refl _ _).alloc (Nat.le_refl _) _
 have hB6:=hbs.trans (hba.mono hbs.size)
 have hS6:=(hS5.other (c:=xb) (k:=6) (v:=.int .i64 d) hne).below hba
 have hR6:=(hR5.other (c:=xb) (k:=6) (v:=.int .i64 d) hxr).below hba
 have hX6:=(hX5.set6 d).below hba
 simp only at hX6
 have hwb:(W5.setCell ⟨xb,6,none⟩ (.int .i64 d)).heap.size=W5.heap.size:=setC_size _ _ _
 have b1:W6.cell? ⟨W5.heap.size,0,none⟩=some (.string x1):=by rw [hW6,← HX.out.1,← hwb];exact (four_at _ _ _ _ _ _).1
 have b2:W6.cell? ⟨W5.heap.size,1,none⟩=some (.string x2):=by rw [hW6,← HX.out.2.1,← hwb];exact (four_at _ _ _ _ _ _).2.1
 have b3:W6.cell? ⟨W5.heap.size,2,none⟩=some (.string x3):=by rw [hW6,← HX.out.2.2.1,← hwb];exact (four_at _ _ _ _ _ _).2.2.1
 have b4:W6.cell? ⟨W5.heap.size,3,none⟩=some (.string x4):=by rw [hW6,← HX.out.2.2.2,← hwb];exact (four_at _ _ _ _ _ _).2.2.2
 have hxw:¬ xb=W5.heap.size:=by
  have:=World.block_lt_of_cell? _ _ hX5.ev.c0
  simp only at this;omega
 have hxw':¬ W5.heap.size=xb:=fun e=>hxw e.symm
 obtain ⟨wb,hwbe⟩:∃ x,x=W5.heap.size:=⟨_,rfl⟩
 rw [← hwbe] at b1 b2 b3 b4 hxw hxw'
 have HW6:=hidN hwbe
 clear hW6 hbs hba hS5 hR5 hX5 hB5 hwb HX
 have u1:=hS6.c1
 have k2:=hX6.ev.c2
 have kf:=hX6.fz
 simp only at k2
 have u3:=hS6.c3
 have HK:=hidN (kindOf_bd p1.data.toList)
 rw [← HW6.out]
 clear HW6 HK hwbe
 by_cases e1:p1.data.toList=wordOf 1
 ·have hk:kindOf p1.data.toList=1:=by rw [e1];rfl
  have HTk:Hid (∀ v,Glob v→Calls Tryz.prog 92 #[.agg #[.int .i64 0,.string p2,.int .i64 1,.int .i64 n3,.int .i64 m5,.int .i64 0,.int .i64 d]] v fun x w'=>x = .returned (.tuple #[.string t,.int .i64 kx])∧Below v.heap.size v w'):=by
   have:=HT.out;rw [hk] at this;exact this
  have HEk:Hid ((kx=0∧(t.toList == s.toList)=true∧out=⟨0,p2,1,n3,m5,0,d⟩∧kk=0)∨(kx=0∧(t.toList == s.toList)=false∧out=ev0∧kk=3)∨(kx=1∧out=ev0∧kk=3)):=by
   have:=HE.out;rw [hk] at this;exact this
  have r1:(x1.toList == p1.toList)=true:=by rw [Q1.out];exact decide_eq_true e1
  have r2:(x2.toList == p1.toList)=false:=by rw [Q2.out,e1];decide
  have r3:(x3.toList == p1.toList)=false:=by rw [Q3.out,e1];decide
  have r4:(x4.toList == p1.toList)=false:=by rw [Q4.out,e1];decide
  clear HT HE Q1 Q2 Q3 Q4 hk e1
  refine wp_loop_rounds 5 ?_
  rw [rounds_succ]
  go_wp2
  rw [rounds_succ]
  go_wp2
  rw [rounds_succ]
  go_wp2
  rw [rounds_succ]
  go_wp2
  rw [rounds_succ]
  go_wp2_with fail
  clear r1 r2 r3 r4 b1 b2 b3 b4 u1 k2 kf u3
  have hB7:=hB6.setCell (p:=⟨xb,2,none⟩) hxle (.int .i64 1)
  have hS7:=hS6.other (c:=xb) (k:=2) (v:=.int .i64 1) hne
  have hR7:=hR6.other (c:=xb) (k:=2) (v:=.int .i64 1) hxr
  have hX7:=hX6.set2 1
  simp only at hX7
  clear hB6 hS6 hR6 hX6
  refine (HA3 _ (HG.out.below hB7)).out.mono ?_
  rintro x W8 ⟨v8,rfl,hb8⟩
  have hB8:=hB7.trans (hb8.mono hB7.size)
  have hS8:=hS7.below hb8
  have hR8:=hR7.below hb8
  have hX8:=hX7.below hb8
  clear hB7 hS7 hR7 hX7 hb8
  obtain ⟨y0,y1,y2,y3,y4,y5,y6⟩:=hX8.ev
  have yf:=hX8.fz
  simp only at y0 y1 y2 y3 y4 y5 y6
  have u5:=hS8.c5
  go_wp2_with fail
  clear y0 y1 y2 y3 y4 y5 y6 yf u5
  have hB9:=hB8.setCell (p:=⟨xb,3,none⟩) hxle (.int .i64 n3)
  have hS9:=hS8.other (c:=xb) (k:=3) (v:=.int .i64 n3) hne
  have hR9:=hR8.other (c:=xb) (k:=3) (v:=.int .i64 n3) hxr
  have hX9:=hX8.set3 n3
  simp only at hX9
  clear hB8 hS8 hR8 hX8
  refine (HM5 _ (HG.out.below hB9)).out.mono ?_
  rintro x W10 ⟨v10,rfl,hb10⟩
  have hB10:=hB9.trans (hb10.mono hB9.size)
  have hS10:=hS9.below hb10
  have hR10:=hR9.below hb10
  have hX10:=hX9.below hb10
  clear hB9 hS9 hR9 hX9 hb10
  obtain ⟨y0,y1,y2,y3,y4,y5,y6⟩:=hX10.ev
  have yf:=hX10.fz
  simp only at y0 y1 y2 y3 y4 y5 y6
  have u5:=hS10.c5
  go_wp2_with fail
  clear y0 y1 y2 y3 y4 y5 y6 yf u5
  have hB11:=hB10.setCell (p:=⟨xb,4,none⟩) hxle (.int .i64 m5)
  have hS11:=hS10.other (c:=xb) (k:=4) (v:=.int .i64 m5) hne
  have hR11:=hR10.other (c:=xb) (k:=4) (v:=.int .i64 m5) hxr
  have hX11:=hX10.set4 m5
  simp only at hX11
  clear hB10 hS10 hR10 hX10
  refine (HTk.out _ (HG.out.below hB11)).mono ?_
  rintro x W12 ⟨rfl,hb12⟩
  have hB12:=hB11.trans (hb12.mono hB11.size)
  obtain ⟨y0,y1,y2,y3,y4,y5,y6⟩:=(hX11.below hb12).ev
  obtain ⟨r0,r1,r2,r3,r4,r5,r6⟩:=(hR11.below hb12).ev
  have rf:=(hR11.below hb12).fz
  simp only at y0 y1 y2 y3 y4 y5 y6 r0 r1 r2 r3 r4 r5 r6
  clear hB11 hS11 hR11 hX11 hb12 HTk HG HN
  rcases HEk.out with ⟨rfl,hcmp,rfl,rfl⟩ | ⟨rfl,hcmp,rfl,rfl⟩ | ⟨rfl,rfl,rfl⟩
  ·clear HEk
   go_wp2
   refine bodyPost_ret (v:=.tuple #[.agg #[.int .i64 0,.string p2,.int .i64 1,.int .i64 n3,.int .i64 m5,.int .i64 0,.int .i64 d],.int .i64 0]) (by simp [results,Tryz.results49,go_sem, *]) rfl ⟨rfl,?_⟩
   exact ((((((hB12.setCell (Nat.le_refl _) _).setCell (Nat.le_refl _) _).setCell (Nat.le_refl _) _).setCell (Nat.le_refl _) _).setCell (Nat.le_refl _) _).setCell (Nat.le_refl _) _).setCell (Nat.le_refl _) _
  ·clear HEk
   go_wp2
   refine bodyPost_ret (v:=.tuple #[.agg #[.int .i64 0,.string ⟨#[]⟩,.int .i64 0,.int .i64 0,.int .i64 0,.int .i64 0,.int .i64 0],.int .i64 3]) (by simp [results,Tryz.results49,go_sem, *]) rfl ⟨rfl,?_⟩
   exact ((((((hB12.setCell (Nat.le_refl _) _).setCell (Nat.le_refl _) _).setCell (Nat.le_refl _) _).setCell (Nat.le_refl _) _).setCell (Nat.le_refl _) _).setCell (Nat.le_refl _) _).setCell (Nat.le_refl _) _
  ·clear HEk
   go_wp2
   refine bodyPost_ret (v:=.tuple #[.agg #[.int .i64 0,.string ⟨#[]⟩,.int .i64 0,.int .i64 0,.int .i64 0,.int .i64 0,.int .i64 0],.int .i64 3]) (by simp [results,Tryz.results49,go_sem, *]) rfl ⟨rfl,?_⟩
   exact ((((((hB12.setCell (Nat.le_refl _) _).setCell (Nat.le_refl _) _).setCell (Nat.le_refl _) _).setCell (Nat.le_refl _) _).setCell (Nat.le_refl _) _).setCell (Nat.le_refl _) _).setCell (Nat.le_refl _) _
 by_cases e2:p1.data.toList=wordOf 2
 ·have hk:kindOf p1.data.toList=2:=by rw [e2];rfl
  have HTk:Hid (∀ v,Glob v→Calls Tryz.prog 92 #[.agg #[.int .i64 0,.string p2,.int .i64 2,.int .i64 0,.int .i64 m3,.int .i64 n5,.int .i64 d]] v fun x w'=>x = .returned (.tuple #[.string t,.int .i64 kx])∧Below v.heap.size v w'):=by
   have:=HT.out;rw [hk] at this;exact this
  have HEk:Hid ((kx=0∧(t.toList == s.toList)=true∧out=⟨0,p2,2,0,m3,n5,d⟩∧kk=0)∨(kx=0∧(t.toList == s.toList)=false∧out=ev0∧kk=3)∨(kx=1∧out=ev0∧kk=3)):=by
   have:=HE.out;rw [hk] at this;exact this
  have r1:(x1.toList == p1.toList)=false:=by rw [Q1.out,e2];decide
  have r2:(x2.toList == p1.toList)=true:=by rw [Q2.out];exact decide_eq_true e2
  have r3:(x3.toList == p1.toList)=false:=by rw [Q3.out,e2];decide
  have r4:(x4.toList == p1.toList)=false:=by rw [Q4.out,e2];decide
  clear HT HE Q1 Q2 Q3 Q4 hk e2 e1
  refine wp_loop_rounds 5 ?_
  rw [rounds_succ]
  go_wp2
  rw [rounds_succ]
  go_wp2
  rw [rounds_succ]
  go_wp2
  rw [rounds_succ]
  go_wp2
  rw [rounds_succ]
  go_wp2_with fail
  clear r1 r2 r3 r4 b1 b2 b3 b4 u1 k2 kf u3
  have hB7:=hB6.setCell (p:=⟨xb,2,none⟩) hxle (.int .i64 2)
  have hS7:=hS6.other (c:=xb) (k:=2) (v:=.int .i64 2) hne
  have hR7:=hR6.other (c:=xb) (k:=2) (v:=.int .i64 2) hxr
  have hX7:=hX6.set2 2
  simp only at hX7
  clear hB6 hS6 hR6 hX6
  refine (HM3 _ (HG.out.below hB7)).out.mono ?_
  rintro x W8 ⟨v8,rfl,hb8⟩
  have hB8:=hB7.trans (hb8.mono hB7.size)
  have hS8:=hS7.below hb8
  have hR8:=hR7.below hb8
  have hX8:=hX7.below hb8
  clear hB7 hS7 hR7 hX7 hb8
  obtain ⟨y0,y1,y2,y3,y4,y5,y6⟩:=hX8.ev
  have yf:=hX8.fz
  simp only at y0 y1 y2 y3 y4 y5 y6
  have u5:=hS8.c5
  go_wp2_with fail
  clear y0 y1 y2 y3 y4 y5 y6 yf u5
  have hB9:=hB8.setCell (p:=⟨xb,4,none⟩) hxle (.int .i64 m3)
  have hS9:=hS8.other (c:=xb) (k:=4) (v:=.int .i64 m3) hne
  have hR9:=hR8.other (c:=xb) (k:=4) (v:=.int .i64 m3) hxr
  have hX9:=hX8.set4 m3
  simp only at hX9
  clear hB8 hS8 hR8 hX8
  refine (HA5 _ (HG.out.below hB9)).out.mono ?_
  rintro x W10 ⟨v10,rfl,hb10⟩
  have hB10:=hB9.trans (hb10.mono hB9.size)
  have hS10:=hS9.below hb10
  have hR10:=hR9.below hb10
  have hX10:=hX9.below hb10
  clear hB9 hS9 hR9 hX9 hb10
  obtain ⟨y0,y1,y2,y3,y4,y5,y6⟩:=hX10.ev
  have yf:=hX10.fz
  simp only at y0 y1 y2 y3 y4 y5 y6
  have u5:=hS10.c5
  go_wp2_with fail
  clear y0 y1 y2 y3 y4 y5 y6 yf u5
  have hB11:=hB10.setCell (p:=⟨xb,5,none⟩) hxle (.int .i64 n5)
  have hS11:=hS10.other (c:=xb) (k:=5) (v:=.int .i64 n5) hne
  have hR11:=hR10.other (c:=xb) (k:=5) (v:=.int .i64 n5) hxr
  have hX11:=hX10.set5 n5
  simp only at hX11
  clear hB10 hS10 hR10 hX10
  refine (HTk.out _ (HG.out.below hB11)).mono ?_
  rintro x W12 ⟨rfl,hb12⟩
  have hB12:=hB11.trans (hb12.mono hB11.size)
  obtain ⟨y0,y1,y2,y3,y4,y5,y6⟩:=(hX11.below hb12).ev
  obtain ⟨r0,r1,r2,r3,r4,r5,r6⟩:=(hR11.below hb12).ev
  have rf:=(hR11.below hb12).fz
  simp only at y0 y1 y2 y3 y4 y5 y6 r0 r1 r2 r3 r4 r5 r6
  clear hB11 hS11 hR11 hX11 hb12 HTk HG HN
  rcases HEk.out with ⟨rfl,hcmp,rfl,rfl⟩ | ⟨rfl,hcmp,rfl,rfl⟩ | ⟨rfl,rfl,rfl⟩
  ·clear HEk
   go_wp2
   refine bodyPost_ret (v:=.tuple #[.agg #[.int .i64 0,.string p2,.int .i64 2,.int .i64 0,.int .i64 m3,.int .i64 n5,.int .i64 d],.int .i64 0]) (by simp [results,Tryz.results49,go_sem, *]) rfl ⟨rfl,?_⟩
   exact ((((((hB12.setCell (Nat.le_refl _) _).setCell (Nat.le_refl _) _).setCell (Nat.le_refl _) _).setCell (Nat.le_refl _) _).setCell (Nat.le_refl _) _).setCell (Nat.le_refl _) _).setCell (Nat.le_refl _) _
  ·clear HEk
   go_wp2
   refine bodyPost_ret (v:=.tuple #[.agg #[.int .i64 0,.string ⟨#[]⟩,.int .i64 0,.int .i64 0,.int .i64 0,.int .i64 0,.int .i64 0],.int .i64 3]) (by simp [results,Tryz.results49,go_sem, *]) rfl ⟨rfl,?_⟩
   exact ((((((hB12.setCell (Nat.le_refl _) _).setCell (Nat.le_refl _) _).setCell (Nat.le_refl _) _).setCell (Nat.le_refl _) _).setCell (Nat.le_refl _) _).setCell (Nat.le_refl _) _).setCell (Nat.le_refl _) _
  ·clear HEk
   go_wp2
   refine bodyPost_ret (v:=.tuple #[.agg #[.int .i64 0,.string ⟨#[]⟩,.int .i64 0,.int .i64 0,.int .i64 0,.int .i64 0,.int .i64 0],.int .i64 3]) (by simp [results,Tryz.results49,go_sem, *]) rfl ⟨rfl,?_⟩
   exact ((((((hB12.setCell (Nat.le_refl _) _).setCell (Nat.le_refl _) _).setCell (Nat.le_refl _) _).setCell (Nat.le_refl _) _).setCell (Nat.le_refl _) _).setCell (Nat.le_refl _) _).setCell (Nat.le_refl _) _
 by_cases e3:p1.data.toList=wordOf 3
 ·have hk:kindOf p1.data.toList=3:=by rw [e3];rfl
  have HTk:Hid (∀ v,Glob v→Calls Tryz.prog 92 #[.agg #[.int .i64 0,.string p2,.int .i64 3,.int .i64 n3,.int .i64 0,.int .i64 0,.int .i64 d]] v fun x w'=>x = .returned (.tuple #[.string t,.int .i64 kx])∧Below v.heap.size v w'):=by
   have:=HT.out;rw [hk] at this;exact this
  have HEk:Hid ((kx=0∧(t.toList == s.toList)=true∧out=⟨0,p2,3,n3,0,0,d⟩∧kk=0)∨(kx=0∧(t.toList == s.toList)=false∧out=ev0∧kk=3)∨(kx=1∧out=ev0∧kk=3)):=by
   have:=HE.out;rw [hk] at this;exact this
  have r1:(x1.toList == p1.toList)=false:=by rw [Q1.out,e3];decide
  have r2:(x2.toList == p1.toList)=false:=by rw [Q2.out,e3];decide
  have r3:(x3.toList == p1.toList)=true:=by rw [Q3.out];exact decide_eq_true e3
  have r4:(x4.toList == p1.toList)=false:=by rw [Q4.out,e3];decide
  clear HT HE Q1 Q2 Q3 Q4 hk e3 e1 e2
  refine wp_loop_rounds 5 ?_
  rw [rounds_succ]
  go_wp2
  rw [rounds_succ]
  go_wp2
  rw [rounds_succ]
  go_wp2
  rw [rounds_succ]
  go_wp2
  rw [rounds_succ]
  go_wp2_with fail
  clear r1 r2 r3 r4 b1 b2 b3 b4 u1 k2 kf u3
  have hB7:=hB6.setCell (p:=⟨xb,2,none⟩) hxle (.int .i64 3)
  have hS7:=hS6.other (c:=xb) (k:=2) (v:=.int .i64 3) hne
  have hR7:=hR6.other (c:=xb) (k:=2) (v:=.int .i64 3) hxr
  have hX7:=hX6.set2 3
  simp only at hX7
  clear hB6 hS6 hR6 hX6
  refine (HA3 _ (HG.out.below hB7)).out.mono ?_
  rintro x W8 ⟨v8,rfl,hb8⟩
  have hB8:=hB7.trans (hb8.mono hB7.size)
  have hS8:=hS7.below hb8
  have hR8:=hR7.below hb8
  have hX8:=hX7.below hb8
  clear hB7 hS7 hR7 hX7 hb8
  obtain ⟨y0,y1,y2,y3,y4,y5,y6⟩:=hX8.ev
  have yf:=hX8.fz
  simp only at y0 y1 y2 y3 y4 y5 y6
  have u5:=hS8.c5
  go_wp2_with fail
  clear y0 y1 y2 y3 y4 y5 y6 yf u5
  have hB9:=hB8.setCell (p:=⟨xb,3,none⟩) hxle (.int .i64 n3)
  have hS9:=hS8.other (c:=xb) (k:=3) (v:=.int .i64 n3) hne
  have hR9:=hR8.other (c:=xb) (k:=3) (v:=.int .i64 n3) hxr
  have hX9:=hX8.set3 n3
  simp only at hX9
  clear hB8 hS8 hR8 hX8
  refine (HTk.out _ (HG.out.below hB9)).mono ?_
  rintro x W12 ⟨rfl,hb12⟩
  have hB12:=hB9.trans (hb12.mono hB9.size)
  obtain ⟨y0,y1,y2,y3,y4,y5,y6⟩:=(hX9.below hb12).ev
  obtain ⟨r0,r1,r2,r3,r4,r5,r6⟩:=(hR9.below hb12).ev
  have rf:=(hR9.below hb12).fz
  simp only at y0 y1 y2 y3 y4 y5 y6 r0 r1 r2 r3 r4 r5 r6
  clear hB9 hS9 hR9 hX9 hb12 HTk HG HN
  rcases HEk.out with ⟨rfl,hcmp,rfl,rfl⟩ | ⟨rfl,hcmp,rfl,rfl⟩ | ⟨rfl,rfl,rfl⟩
  ·clear HEk
   go_wp2
   refine bodyPost_ret (v:=.tuple #[.agg #[.int .i64 0,.string p2,.int .i64 3,.int .i64 n3,.int .i64 0,.int .i64 0,.int .i64 d],.int .i64 0]) (by simp [results,Tryz.results49,go_sem, *]) rfl ⟨rfl,?_⟩
   exact ((((((hB12.setCell (Nat.le_refl _) _).setCell (Nat.le_refl _) _).setCell (Nat.le_refl _) _).setCell (Nat.le_refl _) _).setCell (Nat.le_refl _) _).setCell (Nat.le_refl _) _).setCell (Nat.le_refl _) _
  ·clear HEk
   go_wp2
   refine bodyPost_ret (v:=.tuple #[.agg #[.int .i64 0,.string ⟨#[]⟩,.int .i64 0,.int .i64 0,.int .i64 0,.int .i64 0,.int .i64 0],.int .i64 3]) (by simp [results,Tryz.results49,go_sem, *]) rfl ⟨rfl,?_⟩
   exact ((((((hB12.setCell (Nat.le_refl _) _).setCell (Nat.le_refl _) _).setCell (Nat.le_refl _) _).setCell (Nat.le_refl _) _).setCell (Nat.le_refl _) _).setCell (Nat.le_refl _) _).setCell (Nat.le_refl _) _
  ·clear HEk
   go_wp2
   refine bodyPost_ret (v:=.tuple #[.agg #[.int .i64 0,.string ⟨#[]⟩,.int .i64 0,.int .i64 0,.int .i64 0,.int .i64 0,.int .i64 0],.int .i64 3]) (by simp [results,Tryz.results49,go_sem, *]) rfl ⟨rfl,?_⟩
   exact ((((((hB12.setCell (Nat.le_refl _) _).setCell (Nat.le_refl _) _).setCell (Nat.le_refl _) _).setCell (Nat.le_refl _) _).setCell (Nat.le_refl _) _).setCell (Nat.le_refl _) _).setCell (Nat.le_refl _) _
 by_cases e4:p1.data.toList=wordOf 4
 ·have hk:kindOf p1.data.toList=4:=by rw [e4];rfl
  have HTk:Hid (∀ v,Glob v→Calls Tryz.prog 92 #[.agg #[.int .i64 0,.string p2,.int .i64 4,.int .i64 n3,.int .i64 0,.int .i64 0,.int .i64 d]] v fun x w'=>x = .returned (.tuple #[.string t,.int .i64 kx])∧Below v.heap.size v w'):=by
   have:=HT.out;rw [hk] at this;exact this
  have HEk:Hid ((kx=0∧(t.toList == s.toList)=true∧out=⟨0,p2,4,n3,0,0,d⟩∧kk=0)∨(kx=0∧(t.toList == s.toList)=false∧out=ev0∧kk=3)∨(kx=1∧out=ev0∧kk=3)):=by
   have:=HE.out;rw [hk] at this;exact this
  have r1:(x1.toList == p1.toList)=false:=by rw [Q1.out,e4];decide
  have r2:(x2.toList == p1.toList)=false:=by rw [Q2.out,e4];decide
  have r3:(x3.toList == p1.toList)=false:=by rw [Q3.out,e4];decide
  have r4:(x4.toList == p1.toList)=true:=by rw [Q4.out];exact decide_eq_true e4
  clear HT HE Q1 Q2 Q3 Q4 hk e4 e1 e2 e3
  refine wp_loop_rounds 5 ?_
  rw [rounds_succ]
  go_wp2
  rw [rounds_succ]
  go_wp2
  rw [rounds_succ]
  go_wp2
  rw [rounds_succ]
  go_wp2
  rw [rounds_succ]
  go_wp2_with fail
  clear r1 r2 r3 r4 b1 b2 b3 b4 u1 k2 kf u3
  have hB7:=hB6.setCell (p:=⟨xb,2,none⟩) hxle (.int .i64 4)
  have hS7:=hS6.other (c:=xb) (k:=2) (v:=.int .i64 4) hne
  have hR7:=hR6.other (c:=xb) (k:=2) (v:=.int .i64 4) hxr
  have hX7:=hX6.set2 4
  simp only at hX7
  clear hB6 hS6 hR6 hX6
  refine (HA3 _ (HG.out.below hB7)).out.mono ?_
  rintro x W8 ⟨v8,rfl,hb8⟩
  have hB8:=hB7.trans (hb8.mono hB7.size)
  have hS8:=hS7.below hb8
  have hR8:=hR7.below hb8
  have hX8:=hX7.below hb8
  clear hB7 hS7 hR7 hX7 hb8
  obtain ⟨y0,y1,y2,y3,y4,y5,y6⟩:=hX8.ev
  have yf:=hX8.fz
  simp only at y0 y1 y2 y3 y4 y5 y6
  have u5:=hS8.c5
  go_wp2_with fail
  clear y0 y1 y2 y3 y4 y5 y6 yf u5
  have hB9:=hB8.setCell (p:=⟨xb,3,none⟩) hxle (.int .i64 n3)
  have hS9:=hS8.other (c:=xb) (k:=3) (v:=.int .i64 n3) hne
  have hR9:=hR8.other (c:=xb) (k:=3) (v:=.int .i64 n3) hxr
  have hX9:=hX8.set3 n3
  simp only at hX9
  clear hB8 hS8 hR8 hX8
  refine (HTk.out _ (HG.out.below hB9)).mono ?_
  rintro x W12 ⟨rfl,hb12⟩
  have hB12:=hB9.trans (hb12.mono hB9.size)
  obtain ⟨y0,y1,y2,y3,y4,y5,y6⟩:=(hX9.below hb12).ev
  obtain ⟨r0,r1,r2,r3,r4,r5,r6⟩:=(hR9.below hb12).ev
  have rf:=(hR9.below hb12).fz
  simp only at y0 y1 y2 y3 y4 y5 y6 r0 r1 r2 r3 r4 r5 r6
  clear hB9 hS9 hR9 hX9 hb12 HTk HG HN
  rcases HEk.out with ⟨rfl,hcmp,rfl,rfl⟩ | ⟨rfl,hcmp,rfl,rfl⟩ | ⟨rfl,rfl,rfl⟩
  ·clear HEk
   go_wp2
   refine bodyPost_ret (v:=.tuple #[.agg #[.int .i64 0,.string p2,.int .i64 4,.int .i64 n3,.int .i64 0,.int .i64 0,.int .i64 d],.int .i64 0]) (by simp [results,Tryz.results49,go_sem, *]) rfl ⟨rfl,?_⟩
   exact ((((((hB12.setCell (Nat.le_refl _) _).setCell (Nat.le_refl _) _).setCell (Nat.le_refl _) _).setCell (Nat.le_refl _) _).setCell (Nat.le_refl _) _).setCell (Nat.le_refl _) _).setCell (Nat.le_refl _) _
  ·clear HEk
   go_wp2
   refine bodyPost_ret (v:=.tuple #[.agg #[.int .i64 0,.string ⟨#[]⟩,.int .i64 0,.int .i64 0,.int .i64 0,.int .i64 0,.int .i64 0],.int .i64 3]) (by simp [results,Tryz.results49,go_sem, *]) rfl ⟨rfl,?_⟩
   exact ((((((hB12.setCell (Nat.le_refl _) _).setCell (Nat.le_refl _) _).setCell (Nat.le_refl _) _).setCell (Nat.le_refl _) _).setCell (Nat.le_refl _) _).setCell (Nat.le_refl _) _).setCell (Nat.le_refl _) _
  ·clear HEk
   go_wp2
   refine bodyPost_ret (v:=.tuple #[.agg #[.int .i64 0,.string ⟨#[]⟩,.int .i64 0,.int .i64 0,.int .i64 0,.int .i64 0,.int .i64 0],.int .i64 3]) (by simp [results,Tryz.results49,go_sem, *]) rfl ⟨rfl,?_⟩
   exact ((((((hB12.setCell (Nat.le_refl _) _).setCell (Nat.le_refl _) _).setCell (Nat.le_refl _) _).setCell (Nat.le_refl _) _).setCell (Nat.le_refl _) _).setCell (Nat.le_refl _) _).setCell (Nat.le_refl _) _
 have hk:kindOf p1.data.toList=0:=by
  unfold kindOf
  rw [if_neg (show ¬ p1.data.toList=[105,110] from e1),if_neg (show ¬ p1.data.toList=[99,104,97,114,103,101] from e2),if_neg (show ¬ p1.data.toList=[111,117,116] from e3),if_neg (show ¬ p1.data.toList=[99,111,117,110,116] from e4)]
 have HTk:Hid (∀ v,Glob v→Calls Tryz.prog 92 #[.agg #[.int .i64 0,.string p2,.int .i64 0,.int .i64 n3,.int .i64 0,.int .i64 0,.int .i64 d]] v fun x w'=>x = .returned (.tuple #[.string t,.int .i64 kx])∧Below v.heap.size v w'):=by
  have:=HT.out;rw [hk] at this;exact this
 have HEk:Hid ((kx=0∧(t.toList == s.toList)=true∧out=⟨0,p2,0,n3,0,0,d⟩∧kk=0)∨(kx=0∧(t.toList == s.toList)=false∧out=ev0∧kk=3)∨(kx=1∧out=ev0∧kk=3)):=by
  have:=HE.out;rw [hk] at this;exact this
 have r1:(x1.toList == p1.toList)=false:=by rw [Q1.out];exact decide_eq_false e1
 have r2:(x2.toList == p1.toList)=false:=by rw [Q2.out];exact decide_eq_false e2
 have r3:(x3.toList == p1.toList)=false:=by rw [Q3.out];exact decide_eq_false e3
 have r4:(x4.toList == p1.toList)=false:=by rw [Q4.out];exact decide_eq_false e4
 clear HT HE Q1 Q2 Q3 Q4 hk e1 e2 e3 e4
 refine wp_loop_rounds 5 ?_
 rw [rounds_succ]
 go_wp2
 rw [rounds_succ]
 go_wp2
 rw [rounds_succ]
 go_wp2
 rw [rounds_succ]
 go_wp2
 rw [rounds_succ]
 go_wp2_with fail
 clear r1 r2 r3 r4 b1 b2 b3 b4 u1 k2 kf u3
 have hB7:=hB6;have hS7:=hS6;have hR7:=hR6;have hX7:=hX6
 clear hB6 hS6 hR6 hX6
 refine (HA3 _ (HG.out.below hB7)).out.mono ?_
 rintro x W8 ⟨v8,rfl,hb8⟩
 have hB8:=hB7.trans (hb8.mono hB7.size)
 have hS8:=hS7.below hb8
 have hR8:=hR7.below hb8
 have hX8:=hX7.below hb8
 clear hB7 hS7 hR7 hX7 hb8
 obtain ⟨y0,y1,y2,y3,y4,y5,y6⟩:=hX8.ev
 have yf:=hX8.fz
 simp only at y0 y1 y2 y3 y4 y5 y6
 have u5:=hS8.c5
 go_wp2_with fail
 clear y0 y1 y2 y3 y4 y5 y6 yf u5
 have hB9:=hB8.setCell (p:=⟨xb,3,none⟩) hxle (.int .i64 n3)
 have hS9:=hS8.other (c:=xb) (k:=3) (v:=.int .i64 n3) hne
 have hR9:=hR8.other (c:=xb) (k:=3) (v:=.int .i64 n3) hxr
 have hX9:=hX8.set3 n3
 simp only at hX9
 clear hB8 hS8 hR8 hX8
 refine (HTk.out _ (HG.out.below hB9)).mono ?_
 rintro x W12 ⟨rfl,hb12⟩
 have hB12:=hB9.trans (hb12.mono hB9.size)
 obtain ⟨y0,y1,y2,y3,y4,y5,y6⟩:=(hX9.below hb12).ev
 obtain ⟨r0,r1,r2,r3,r4,r5,r6⟩:=(hR9.below hb12).ev
 have rf:=(hR9.below hb12).fz
 simp only at y0 y1 y2 y3 y4 y5 y6 r0 r1 r2 r3 r4 r5 r6
 clear hB9 hS9 hR9 hX9 hb12 HTk HG HN
 rcases HEk.out with ⟨rfl,hcmp,rfl,rfl⟩ | ⟨rfl,hcmp,rfl,rfl⟩ | ⟨rfl,rfl,rfl⟩
 ·clear HEk
  go_wp2
  refine bodyPost_ret (v:=.tuple #[.agg #[.int .i64 0,.string p2,.int .i64 0,.int .i64 n3,.int .i64 0,.int .i64 0,.int .i64 d],.int .i64 0]) (by simp [results,Tryz.results49,go_sem, *]) rfl ⟨rfl,?_⟩
  exact ((((((hB12.setCell (Nat.le_refl _) _).setCell (Nat.le_refl _) _).setCell (Nat.le_refl _) _).setCell (Nat.le_refl _) _).setCell (Nat.le_refl _) _).setCell (Nat.le_refl _) _).setCell (Nat.le_refl _) _
 ·clear HEk
  go_wp2
  refine bodyPost_ret (v:=.tuple #[.agg #[.int .i64 0,.string ⟨#[]⟩,.int .i64 0,.int .i64 0,.int .i64 0,.int .i64 0,.int .i64 0],.int .i64 3]) (by simp [results,Tryz.results49,go_sem, *]) rfl ⟨rfl,?_⟩
  exact ((((((hB12.setCell (Nat.le_refl _) _).setCell (Nat.le_refl _) _).setCell (Nat.le_refl _) _).setCell (Nat.le_refl _) _).setCell (Nat.le_refl _) _).setCell (Nat.le_refl _) _).setCell (Nat.le_refl _) _
 ·clear HEk
  go_wp2
  refine bodyPost_ret (v:=.tuple #[.agg #[.int .i64 0,.string ⟨#[]⟩,.int .i64 0,.int .i64 0,.int .i64 0,.int .i64 0,.int .i64 0],.int .i64 3]) (by simp [results,Tryz.results49,go_sem, *]) rfl ⟨rfl,?_⟩
  exact ((((((hB12.setCell (Nat.le_refl _) _).setCell (Nat.le_refl _) _).setCell (Nat.le_refl _) _).setCell (Nat.le_refl _) _).setCell (Nat.le_refl _) _).setCell (Nat.le_refl _) _).setCell (Nat.le_refl _) _
theorem revent_ok (s:ByteArray) (e:Ev) (w:World) (hl:Glob w) (hs:s.size≤300) (h:Reads s.data.toList e) :
  Calls Tryz.prog 49 #[.string s] w fun x w'=>x = .returned (.tuple #[evV e,.int .i64 0])∧Below w.heap.size w w':=by
 have hr:breadR (parts s)=e:=by rw [breadR_ps];exact reads_rread h
 have hw:=breadR_w s hs
 rw [hr] at hw
 have ht:eb (ET e)=s:=by rw [h.2.2,eb_data]
 refine revent_gen s s 0 e 0 w hl.num hl hs (fun v hv=>?_) (.inl ⟨rfl,by simp,hr.symm,rfl⟩)
 rw [hr]
 have:=rtext_ok e v hv hw h.1
 rw [ht] at this
 exact this
theorem revent_bad (s:ByteArray) (w:World) (hl:Glob w) (hs:s.size≤300) (h:∀ e,¬ Reads s.data.toList e) :
  Calls Tryz.prog 49 #[.string s] w fun x w'=>x = .returned (.tuple #[evV ev0,.int .i64 3])∧Below w.heap.size w w':=by
 have hw:=breadR_w s hs
 rcases Classical.em (Rt (breadR (parts s))) with hr | hr
 ·refine revent_gen s (eb (ET (breadR (parts s)))) 0 ev0 3 w hl.num hl hs (fun v hv=>rtext_ok _ v hv hw hr) (.inr (.inl ⟨rfl,?_,rfl,rfl⟩))
  rw [ByteArray.toList_eq,ByteArray.toList_eq]
  exact beq_eq_false_iff_ne.2 (fun he=>h _ ⟨hr,rfl,he⟩)
 ·exact revent_gen s ⟨#[]⟩ 1 ev0 3 w hl.num hl hs (fun v _=>rtext_bad _ v hw hr) (.inr (.inr ⟨rfl,rfl,rfl⟩))
end Go.Proofs.YtdkhohlhdiekmaaGreatDoor
