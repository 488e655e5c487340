/-  -/
import Derived.Test.YtbleojodidbhiaaGreatDoorBnA
import Derived.Test.YtbleojodidbhiaaGreatDoorBnV
import Derived.Laws.BytesArg
import Derived.Test.YtbleojodidbhiaaGreatDoorBnShelf
namespace Go.Proofs.YtbleojodidbhiaaGreatDoor
open Go.RowKit
theorem take_snocB (s:ByteArray) (k:Nat) (h:k < s.size):s.data.toList.take (k + 1)=s.data.toList.take k ++ [s[k]]:=by
 rw [List.take_succ_eq_append_getElem (by simpa using h)];rfl
theorem not32 (c:Nat) (h:c < 4294967296):4294967295 ^^^ c=4294967295 - c:=by
 have h1:(BitVec.allOnes 32 ^^^ BitVec.ofNat 32 c).toNat=(~~~ BitVec.ofNat 32 c).toNat:=by rw [BitVec.allOnes_xor]
 rw [BitVec.toNat_xor,BitVec.toNat_not,BitVec.toNat_ofNat,Nat.mod_eq_of_lt h] at h1
 exact h1
set_option maxHeartbeats 2000000 in
theorem jsum_any (s:ByteArray) (w:World) (hs:s.size≤1000000) :
  Calls Tryz.prog 58 #[.string s] w fun e w'=>e = .returned (.int .u32 (sumL s.data.toList:Nat))∧w'=w:=by
 go_enter Tryz.func58,Tryz.ntmps58
 go_wp2
 go_loop [3,8] (fun c i=>∃ k:Nat,k≤s.size∧i = .int .i64 k∧c = .int .u32 (crL (s.data.toList.take k):Nat)) (fun _ i=>s.size - (intOf i).toNat)
 case atStart=>exact ⟨0,Nat.zero_le _,rfl,rfl⟩
 case round=>
  obtain ⟨k,hk,rfl,rfl⟩:=hrel
  have hc:=crL_lt (s.data.toList.take k)
  by_cases hlt:k < s.size
  ·have HS:Hid (crL (s.data.toList.take (k + 1))=crB (crL (s.data.toList.take k)) s[k]):=by rw [take_snocB s k hlt];exact crL_snoc _ _
   obtain ⟨c,hcv⟩:∃ c,c=crL (s.data.toList.take k):=⟨_,rfl⟩
   rw [← hcv] at hc HS ⊢
   clear hcv
   have hb:=byte_lt s[k]
   have hx:=u32_xor_nat c s[k].toNat hc (by omega)
   have hxl:=xor_byte_lt hc s[k]
   go_wp2
   go_loop [3,17] (fun d j=>∃ m:Nat,m≤8∧j = .int .i64 m∧d = .int .u32 (crN m (c ^^^ s[k].toNat):Nat)) (fun _ j=>8 - (intOf j).toNat)
   case atStart=>exact ⟨0,Nat.zero_le _,rfl,rfl⟩
   case round=>
    obtain ⟨m,hm,rfl,rfl⟩:=hrel
    have hd:=crN_lt hxl m
    have HN:Hid (crN (m + 1) (c ^^^ s[k].toNat)=crT (crN m (c ^^^ s[k].toNat))):=rfl
    obtain ⟨d,hdv⟩:∃ d,d=crN m (c ^^^ s[k].toNat):=⟨_,rfl⟩
    rw [← hdv] at hd HN ⊢
    by_cases hm8:m < 8
    ·clear hdv
     have ha:bits .and .u32 (d:Int) 1=((d % 2:Nat):Int):=by rw [show (1:Int)=((1:Nat):Int) from rfl,u32_and_nat d 1 hd (by omega),nat_mask1]
     have hx2:=u32_xor_nat (d / 2) 3988292384 (by omega) (by omega)
     by_cases ho:d % 2=1
     ·rw [ho] at ha
      have HT:Hid (crT d=(d / 2) ^^^ 3988292384):=by show crT d=_;rw [crT,if_pos ho]
      go_wp2
      go_round
      case rel=>exact ⟨m + 1,by omega,by go_num,by rw [HN.out,HT.out];exact congrArg (Value.int .u32) hx2⟩
      case measure=>simp [intOf];omega
     ·have ho':d % 2=0:=by omega
      rw [ho'] at ha
      have HT:Hid (crT d=d / 2):=by show crT d=_;rw [crT,if_neg ho]
      go_wp2
      go_round
      case rel=>exact ⟨m + 1,by omega,by go_num,by rw [HN.out,HT.out];rfl⟩
      case measure=>simp [intOf];omega
    ·obtain rfl:m=8:=by omega
     have HB:Hid (d=crB c s[k]):=hdv
     clear hdv HN
     go_wp2
     go_round
     case rel=>exact ⟨k + 1,by omega,by go_num,by rw [HS.out,HB.out]⟩
     case measure=>simp [intOf];omega
  ·have ht:s.data.toList.take k=s.data.toList:=List.take_of_length_le (by simp;omega)
   rw [ht] at hc ⊢
   have HR:Hid (sumL s.data.toList=4294967295 - crL s.data.toList):=rfl
   clear ht
   obtain ⟨c,hcv⟩:∃ c,c=crL s.data.toList:=⟨_,rfl⟩
   rw [← hcv] at hc HR ⊢
   clear hcv
   have HN:Hid (bits .xor .u32 (IntKind.u32.max) (c:Int)=((4294967295 - c:Nat):Int)):=by
    show bits .xor .u32 (IntKind.u32.max) (c:Int)=_
    rw [show IntKind.u32.max=((4294967295:Nat):Int) from by kernel_rfl,u32_xor_nat _ _ (by omega) hc,not32 c hc]
   go_wp2
   go_ret
   exact ⟨by rw [HR.out,← HN.out];rfl,rfl⟩
def ba (l:List UInt8):ByteArray:=⟨l.toArray⟩
theorem ba_data (l:List UInt8):(ba l).data.toList=l:=by simp [ba]
theorem ba_size (l:List UInt8):(ba l).size=l.length:=by simp [ba,ByteArray.size]
theorem ba_of (x:ByteArray):ba x.data.toList=x:=by cases x;simp [ba]
theorem ba_app (a b:List UInt8):ba a ++ ba b=ba (a ++ b):=by
 apply ByteArray.ext
 simp [ba,ByteArray.data_append]
theorem ba_inj {a b:List UInt8} (h:ba a=ba b):a=b:=by rw [← ba_data a,h,ba_data]
theorem size_data (x:ByteArray):x.data.toList.length=x.size:=by simp
def nbAt (n k j:Nat):Int:=if j < k then ((n / 256 ^ j % 256:Nat):Int) else 0
def nbW (w:World) (n k:Nat):World:=w.alloc (Obj.cells #[.int .u8 (nbAt n k 0),.int .u8 (nbAt n k 1),.int .u8 (nbAt n k 2),.int .u8 (nbAt n k 3)] 143)
set_option maxHeartbeats 2000000 in
theorem jnumber_any (n:Nat) (w:World) (hn:n < 4294967296) :
  Calls Tryz.prog 57 #[.int .u32 n] w fun e w'=>e = .returned (.string (ba (fourL n)))∧Below w.heap.size w w':=by
 go_enter Tryz.func57,Tryz.ntmps57
 go_wp2
 go_loopw [5] (fun i wr=>∃ k:Nat,k≤4∧i = .int .i64 k∧wr=nbW w n k) (fun i _=>4 - (intOf i).toNat)
 case atStart=>exact ⟨0,Nat.zero_le _,rfl,rfl⟩
 case round=>
  obtain ⟨k,hk,rfl,rfl⟩:=hrel
  obtain rfl | rfl | rfl | rfl | rfl:k=0∨k=1∨k=2∨k=3∨k=4:=by omega
  ·unfold nbW
   go_wp2
   refine ⟨⟨1,by omega,rfl,?_⟩,by simp [intOf]⟩
   congr 3
   simp [nbAt]
  ·unfold nbW
   go_wp2
   refine ⟨⟨2,by omega,rfl,?_⟩,by simp [intOf]⟩
   congr 3
  ·unfold nbW
   go_wp2
   refine ⟨⟨3,by omega,rfl,?_⟩,by simp [intOf]⟩
   congr 3
  ·unfold nbW
   go_wp2
   refine ⟨⟨4,by omega,rfl,?_⟩,by simp [intOf]⟩
   congr 3
   simp [nbAt]
   omega
  ·have hc:∀ i,i < 4→(nbW w n 4).cell? ⟨w.heap.size,0 + i,none⟩=some (.int .u8 (([nbAt n 4 0,nbAt n 4 1,nbAt n 4 2,nbAt n 4 3]:List Int).getD i 0)):=fun i hi=>by
    obtain rfl | rfl | rfl | rfl:i=0∨i=1∨i=2∨i=3:=by omega
    all_goals simp [nbW,go_sem]
   have hrun:=run_convert_bytes_arg (P:=Tryz.prog) (nbW w n 4) 62 5 Tryz.underlying62 Tryz.underlying5 w.heap.size 0 4 4 [nbAt n 4 0,nbAt n 4 1,nbAt n 4 2,nbAt n 4 3] rfl hc 9 Tryz.underlying9
   have hb:Below w.heap.size w (nbW w n 4):=(Below.refl _ _).alloc (Nat.le_refl _) _
   have HE:Hid (strOfNums [nbAt n 4 0,nbAt n 4 1,nbAt n 4 2,nbAt n 4 3]=ba (fourL n)):=by
    show strOfNums _=_
    simp [strOfNums,nbAt,fourL,ba]
    refine ⟨?_,?_,?_,?_⟩ <;> congr 1
   go_wp2
   go_ret
   exact ⟨by rw [HE.out];rfl,hb⟩
set_option maxHeartbeats 2000000 in
theorem jframe_ok (n:Nat) (t:ByteArray) (w:World) (hn:n≤100000) (ht:t.size≤200) :
  Calls Tryz.prog 31 #[.int .i64 n,.string t] w fun e w'=>e = .returned (.tuple #[.string (ba (frameL n t.data.toList)),.nilIface])∧Below w.heap.size w w':=by
 obtain ⟨l,rfl⟩:∃ l,t=ba l:=⟨_,(ba_of t).symm⟩
 rw [ba_data]
 have hl:l.length=(ba l).size:=(ba_size l).symm
 have N1:=fun w=>jnumber_any l.length w (by omega)
 have N2:=fun w=>jnumber_any n w (by omega)
 have S1:=fun w=>jsum_any (ba (headL n l)) w (by rw [ba_size,head_len];omega)
 have S2:=fun w=>jsum_any (ba (bodyL n l)) w (by rw [ba_size,body_len];omega)
 rw [ba_data] at S1 S2
 have N3:=fun w=>jnumber_any (sumL (headL n l)) w (sumL_lt _)
 have N4:=fun w=>jnumber_any (sumL (bodyL n l)) w (sumL_lt _)
 have HA:Hid (ba (fourL l.length) ++ ba (fourL n)=ba (headL n l)):=ba_app _ _
 have HB:Hid (ba (headL n l) ++ ba (fourL (sumL (headL n l)))=ba (headL n l ++ fourL (sumL (headL n l)))):=ba_app _ _
 have HC:Hid (ba (headL n l ++ fourL (sumL (headL n l))) ++ ba l=ba (bodyL n l)):=ba_app _ _
 have HD:Hid (ba (bodyL n l) ++ ba (fourL (sumL (bodyL n l)))=ba (frameL n l)):=ba_app _ _
 have z1:(ba (fourL l.length)).size=4:=by rw [ba_size];rfl
 have z2:(ba (fourL n)).size=4:=by rw [ba_size];rfl
 have z3:(ba (headL n l)).size=8:=by rw [ba_size];rfl
 have z4:(ba (fourL (sumL (headL n l)))).size=4:=by rw [ba_size];rfl
 have z5:(ba (headL n l ++ fourL (sumL (headL n l)))).size=12:=by rw [ba_size];rfl
 have z6:(ba (bodyL n l)).size=12 + (ba l).size:=by rw [ba_size,body_len,ba_size]
 have z7:(ba (fourL (sumL (bodyL n l)))).size=4:=by rw [ba_size];rfl
 rw [hl] at N1 HA z1
 go_enter Tryz.func31,Tryz.ntmps31
 clear hl
 go_wp2_with fail
 refine (N1 _).mono ?_;rintro e w1 ⟨rfl,hb1⟩
 go_wp2_with fail
 refine (N2 _).mono ?_;rintro e w2 ⟨rfl,hb2⟩
 have A1:=HA.out
 go_wp2_with fail
 clear A1
 refine (S1 _).mono ?_;rintro e w3 ⟨rfl,rfl⟩
 go_wp2_with fail
 refine (N3 _).mono ?_;rintro e w4 ⟨rfl,hb4⟩
 have B1:=HB.out
 have C1:=HC.out
 go_wp2_with fail
 clear B1 C1
 refine (S2 _).mono ?_;rintro e w5 ⟨rfl,rfl⟩
 go_wp2_with fail
 refine (N4 _).mono ?_;rintro e w6 ⟨rfl,hb6⟩
 have D1:=HD.out
 go_wp2
 go_ret2
 have h12:=hb1.trans (hb2.mono hb1.size)
 have h14:=h12.trans (hb4.mono h12.size)
 exact ⟨rfl,h14.trans (hb6.mono h14.size)⟩
set_option maxHeartbeats 2000000 in
theorem jframe_long (n:Int) (t:ByteArray) (w:World) (hz:t.size≤maxLen) (ht:200 < t.size) :
  Calls Tryz.prog 31 #[.int .i64 n,.string t] w fun e w'=>e = .returned (.tuple #[.string (ba []),.iface 69 (.int .i64 4)])∧Below w.heap.size w w':=by
 unfold maxLen at hz
 go_enter Tryz.func31,Tryz.ntmps31
 go_wp2
 go_ret2
 exact ⟨rfl,Below.refl _ _⟩
set_option maxHeartbeats 2000000 in
theorem jframe_arg (n:Int) (t:ByteArray) (w:World) (ht:t.size≤200) (hn:n < 0∨100000 < n) :
  Calls Tryz.prog 31 #[.int .i64 n,.string t] w fun e w'=>e = .returned (.tuple #[.string (ba []),.iface 69 (.int .i64 1)])∧Below w.heap.size w w':=by
 rcases hn with hn | hn
 all_goals
  go_enter Tryz.func31,Tryz.ntmps31
  go_wp2
  go_ret2
  exact ⟨rfl,Below.refl _ _⟩
theorem ext_data (x:ByteArray) (a b:Nat):(x.extract a b).data.toList=(x.data.toList.take b).drop a:=by
 rw [ByteArray.data_extract,Array.toList_extract,List.extract_eq_take_drop,List.drop_take]
theorem eqlB_iff (a b:ByteArray):(a.toList == b.toList)=decide (a.data.toList=b.data.toList):=by
 rw [ByteArray.toList_eq,ByteArray.toList_eq,Bool.eq_iff_iff];simp
set_option maxHeartbeats 2000000 in
theorem prefix_yes (s p:ByteArray) (w:World) (h:p.data.toList <+: s.data.toList) :
  Calls Tryz.prog 66 #[.string s,.string p] w fun e w'=>e = .returned (.bool true)∧w'=w:=by
 have hl:p.size≤s.size:=by have:=h.length_le;rwa [size_data,size_data] at this
 have hq:((s.extract 0 p.size).toList == p.toList)=true:=by
  rw [eqlB_iff];apply decide_eq_true
  rw [ext_data,List.drop_zero,← size_data p]
  exact (List.prefix_iff_eq_take.1 h).symm
 have HI:∀ w,Calls Tryz.prog 113 #[.string s,.string p] w fun e w'=>e = .returned (.bool true)∧w'=w:=fun w=>by
  go_enter Tryz.func113,Tryz.ntmps113
  go_wp2
  go_ret
  exact ⟨rfl,rfl⟩
 go_enter Tryz.func66,Tryz.ntmps66
 go_wp2_with fail
 refine (HI _).mono ?_;rintro e w1 ⟨rfl,rfl⟩
 go_wp2
 go_ret
 exact ⟨rfl,rfl⟩
set_option maxHeartbeats 2000000 in
theorem prefix_no (s p:ByteArray) (w:World) (h:¬ p.data.toList <+: s.data.toList) :
  Calls Tryz.prog 66 #[.string s,.string p] w fun e w'=>e = .returned (.bool false)∧w'=w:=by
 have HI:∀ w,Calls Tryz.prog 113 #[.string s,.string p] w fun e w'=>e = .returned (.bool false)∧w'=w:=fun w=>by
  by_cases hl:p.size≤s.size
  ·have hq:((s.extract 0 p.size).toList == p.toList)=false:=by
    rw [eqlB_iff];apply decide_eq_false
    rw [ext_data,List.drop_zero]
    intro e
    exact h (by rw [← e];exact List.take_prefix _ _)
   clear h
   go_enter Tryz.func113,Tryz.ntmps113
   go_wp2
   go_ret
   exact ⟨rfl,rfl⟩
  ·clear h
   go_enter Tryz.func113,Tryz.ntmps113
   go_wp2
   go_ret
   exact ⟨rfl,rfl⟩
 go_enter Tryz.func66,Tryz.ntmps66
 go_wp2_with fail
 refine (HI _).mono ?_;rintro e w1 ⟨rfl,rfl⟩
 go_wp2
 go_ret
 exact ⟨rfl,rfl⟩
def byAt (s:ByteArray) (k:Nat):Int:=((s.data.toList.getD k 0).toNat:Int)
theorem byAt_bd (s:ByteArray) (k:Nat):0≤byAt s k∧byAt s k < 256:=by
 unfold byAt;have:=byte_lt (s.data.toList.getD k 0);omega
theorem byAt_is (s:ByteArray) (k:Nat) (h:k < s.size):(s[k].toNat:Int)=byAt s k:=by
 unfold byAt
 rw [List.getD_eq_getElem?_getD,List.getElem?_eq_getElem (by rw [size_data];exact h)]
 rfl
theorem byAt_q (s:ByteArray) (k:Nat):(((s.data[k]?).getD 0).toNat:Int)=byAt s k:=by
 unfold byAt
 rw [List.getD_eq_getElem?_getD,Array.getElem?_toList]
theorem wraps_i64 (n:Int) (h₀:0≤n) (h₁:n < 2 ^ 63):IntKind.i64.wrap n=n:=by rw [IntKind.wrap_i64];omega
theorem or_join (i:Nat) (x y:Int) (h1:0≤x) (h2:x < 2 ^ i) (h3:0≤y) (h4:y % 2 ^ i=0) (h5:y < 2 ^ 63) (h6:x < 2 ^ 63):bits .or .i64 x y=x + y:=by
 have hc:bits .or .i64 x y=bits .or .i64 y x:=by simp only [bits];rw [BitVec.or_comm]
 rw [hc,bits_join .i64 63 (by decide) wraps_i64 i y x h3 h4 h5 h1 h2 h6,Int.add_comm]
def szAt (s:ByteArray):Nat→Int
 | 0=>0
 | k + 1=>szAt s k + byAt s k * 256 ^ k
theorem sz4 (s:ByteArray):szAt s 4=(numL s.data.toList:Nat):=by
 simp [szAt,numL,byAt];omega
def OrSteps (s:ByteArray):Prop:=bits .or .i64 (szAt s 0) (byAt s 0)=szAt s 1∧bits .or .i64 (szAt s 1) (byAt s 1 * 256)=szAt s 2∧bits .or .i64 (szAt s 2) (byAt s 2 * 65536)=szAt s 3∧bits .or .i64 (szAt s 3) (byAt s 3 * 16777216)=szAt s 4
theorem or_steps (s:ByteArray):OrSteps s:=by
 have b0:=byAt_bd s 0
 have b1:=byAt_bd s 1
 have b2:=byAt_bd s 2
 have b3:=byAt_bd s 3
 have e1:szAt s 1=szAt s 0 + byAt s 0:=by simp [szAt]
 have e2:szAt s 2=szAt s 1 + byAt s 1 * 256:=by simp [szAt]
 have e3:szAt s 3=szAt s 2 + byAt s 2 * 65536:=by simp [szAt]
 have e4:szAt s 4=szAt s 3 + byAt s 3 * 16777216:=by simp [szAt]
 have e0:szAt s 0=0:=rfl
 refine ⟨?_,?_,?_,?_⟩
 ·rw [e1];exact or_join 0 _ _ (by omega) (by omega) (by omega) (by omega) (by omega) (by omega)
 ·rw [e2];exact or_join 8 _ _ (by omega) (by omega) (by omega) (by omega) (by omega) (by omega)
 ·rw [e3];exact or_join 16 _ _ (by omega) (by omega) (by omega) (by omega) (by omega) (by omega)
 ·rw [e4];exact or_join 24 _ _ (by omega) (by omega) (by omega) (by omega) (by omega) (by omega)
set_option maxHeartbeats 2000000 in
theorem ahead_some (s:ByteArray) (w:World) (hs:s.size≤1000000) (h:12 + numL s.data.toList≤s.size) :
  Calls Tryz.prog 65 #[.string s] w fun e w'=>e = .returned (.tuple #[.string (ba ((s.data.toList.drop 12).take (numL s.data.toList))),.bool true])∧w'=w:=by
 have b0:=byAt_bd s 0
 have b1:=byAt_bd s 1
 have b2:=byAt_bd s 2
 have b3:=byAt_bd s 3
 have HJ:Hid (OrSteps s):=or_steps s
 go_enter Tryz.func65,Tryz.ntmps65
 go_wp2
 go_loop [4,9] (fun c i=>∃ k:Nat,k≤4∧i = .int .i64 k∧c = .int .i64 (szAt s k)) (fun _ i=>4 - (intOf i).toNat)
 case atStart=>exact ⟨0,Nat.zero_le _,rfl,rfl⟩
 case round=>
  obtain ⟨k,hk,rfl,rfl⟩:=hrel
  obtain rfl | rfl | rfl | rfl | rfl:k=0∨k=1∨k=2∨k=3∨k=4:=by omega
  ·have e:=byAt_is s 0 (by omega)
   have e':=byAt_q s 0
   go_wp2
   exact ⟨⟨1,by omega,rfl,by rw [HJ.out.1]⟩,by simp [intOf]⟩
  ·have e:=byAt_is s 1 (by omega)
   go_wp2
   exact ⟨⟨2,by omega,rfl,by rw [HJ.out.2.1]⟩,by simp [intOf]⟩
  ·have e:=byAt_is s 2 (by omega)
   go_wp2
   exact ⟨⟨3,by omega,rfl,by rw [HJ.out.2.2.1]⟩,by simp [intOf]⟩
  ·have e:=byAt_is s 3 (by omega)
   go_wp2
   exact ⟨⟨4,by omega,rfl,by rw [HJ.out.2.2.2]⟩,by simp [intOf]⟩
  ·have e:=sz4 s
   have hx:s.extract 12 (12 + numL s.data.toList)=ba ((s.data.toList.drop 12).take (numL s.data.toList)):=by
    rw [← ba_of (s.extract 12 _),ext_data,List.drop_take,Nat.add_sub_cancel_left]
   go_wp2
   go_ret2
   exact ⟨rfl,rfl⟩
set_option maxHeartbeats 2000000 in
theorem ahead_none (s:ByteArray) (w:World) (hs:s.size≤1000000) (h:s.size < 12 + numL s.data.toList) :
  Calls Tryz.prog 65 #[.string s] w fun e w'=>e = .returned (.tuple #[.string (ba []),.bool false])∧w'=w:=by
 by_cases h12:s.size < 12
 ·go_enter Tryz.func65,Tryz.ntmps65
  go_wp2
  go_ret2
  exact ⟨rfl,rfl⟩
 ·have b0:=byAt_bd s 0
  have b1:=byAt_bd s 1
  have b2:=byAt_bd s 2
  have b3:=byAt_bd s 3
  have HJ:Hid (OrSteps s):=or_steps s
  go_enter Tryz.func65,Tryz.ntmps65
  go_wp2
  go_loop [4,9] (fun c i=>∃ k:Nat,k≤4∧i = .int .i64 k∧c = .int .i64 (szAt s k)) (fun _ i=>4 - (intOf i).toNat)
  case atStart=>exact ⟨0,Nat.zero_le _,rfl,rfl⟩
  case round=>
   obtain ⟨k,hk,rfl,rfl⟩:=hrel
   obtain rfl | rfl | rfl | rfl | rfl:k=0∨k=1∨k=2∨k=3∨k=4:=by omega
   ·have e:=byAt_is s 0 (by omega)
    have e':=byAt_q s 0
    go_wp2
    exact ⟨⟨1,by omega,rfl,by rw [HJ.out.1]⟩,by simp [intOf]⟩
   ·have e:=byAt_is s 1 (by omega)
    go_wp2
    exact ⟨⟨2,by omega,rfl,by rw [HJ.out.2.1]⟩,by simp [intOf]⟩
   ·have e:=byAt_is s 2 (by omega)
    go_wp2
    exact ⟨⟨3,by omega,rfl,by rw [HJ.out.2.2.1]⟩,by simp [intOf]⟩
   ·have e:=byAt_is s 3 (by omega)
    go_wp2
    exact ⟨⟨4,by omega,rfl,by rw [HJ.out.2.2.2]⟩,by simp [intOf]⟩
   ·have e:=sz4 s
    go_wp2
    go_ret2
    exact ⟨rfl,rfl⟩
set_option maxHeartbeats 1000000 in
theorem clone_txt (s:ByteArray) (w:World) (hs:s.size≤1000000) :
  Calls Tryz.prog 67 #[.string s] w fun e w'=>e = .returned (.string s)∧Below w.heap.size w w':=by
 have HC:=fun w=>Tryz.stringslite_Clone s w (by omega)
 go_enter Tryz.func67,Tryz.ntmps67
 go_wp2_with fail
 refine (HC _).mono ?_
 rintro e w1 ⟨rfl,hb⟩
 go_wp2
 go_ret
 exact ⟨rfl,hb⟩
end Go.Proofs.YtbleojodidbhiaaGreatDoor
