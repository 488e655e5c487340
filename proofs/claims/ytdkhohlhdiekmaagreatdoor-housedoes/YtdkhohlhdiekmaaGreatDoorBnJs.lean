/-  -/
import Derived.Test.YtdkhohlhdiekmaaGreatDoorBnJr
import Derived.Test.YtdkhohlhdiekmaaGreatDoorBnD
import Derived.SliceStrings
import Derived.Test.YtdkhohlhdiekmaaGreatDoorBnA
import Derived.WalkSmall
namespace Go.Proofs.YtdkhohlhdiekmaaGreatDoor
open Go.RowKit
def encS (t:List UInt8):Value:=.string (ba t)
theorem Tryz.infoStrJ:(Tryz.prog.info? 9).map (fun i=>(i.zero,i.size,i.bytes))=some (some (.string ⟨#[]⟩),1,16):=by kernel_rfl
theorem tot_ge:∀ (l:List (List UInt8)),16 * l.length≤totL l
 | []=>Nat.le_refl _
 | t :: l=>by have:=tot_ge l;rw [tot_cons,List.length_cons];omega
def ReadP (s:List UInt8) (w:World) (e:Ending) (w':World):Prop:=∃ (v:Value) (ls:List (List UInt8)),e = .returned (.tuple #[v,.int .i64 (totL ls:Nat)])∧Rd 0 s ls∧totL ls≤s.length∧w'.ownsRow w.heap.size 9 1 v ls.length (ls.map encS)∧Below w.heap.size w w'
set_option maxHeartbeats 4000000 in
theorem jread_any (s:ByteArray) (w:World) (hs:s.size≤100000) :
  Calls Tryz.prog 36 #[.string s] w (ReadP s.data.toList w):=by
 obtain ⟨i0,hi,hz0,hz1,hz2⟩:=info_parts Tryz.infoStrJ
 obtain ⟨L,hL⟩:∃ L,L=s.data.toList:=⟨_,rfl⟩
 have hLs:L.length=s.size:=by rw [hL,size_data]
 rw [← hL]
 go_enter Tryz.func36,Tryz.ntmps36
 go_wp2
 go_loopw [4,5] (fun u c wr=>∃ ds:List (List UInt8),Hid (Sofar L ds)∧c = .int .i64 (totL ds:Nat)∧Hid (wr.ownsRow w.heap.size 9 1 u ds.length (ds.map encS))∧Below w.heap.size w wr) (fun _ c _=>s.size - (intOf c).toNat)
 case atStart=>exact ⟨[],Sofar.nil _,rfl,World.ownsRow_nil _ _ _ _,Below.refl _ _⟩
 case round=>
  obtain ⟨ds,HS,rfl,HO,hb⟩:=hrel
  have ht:=HS.out.1
  rw [hLs] at ht
  have hg:=tot_ge ds
  obtain ⟨c,hc⟩:∃ c,c=totL ds:=⟨_,rfl⟩
  rw [← hc] at ht hg
  obtain ⟨r,hr⟩:∃ r,r=L.drop c:=⟨_,rfl⟩
  have hrl:r.length=s.size - c:=by rw [hr,List.length_drop,hLs]
  have HE:Hid (s.extract c s.size=ba r):=by
   show _=_
   rw [← ba_of (s.extract c s.size),ext_data,← size_data s,List.take_length,hr,hL]
  have HR:Hid (L.drop (totL ds)=r):=by show _=_;rw [hr,hc]
  have HT:Hid (totL ds=c):=hc.symm
  rw [← hc]
  clear hc hr
  obtain ⟨nd,hnd⟩:∃ n,n=ds.length:=⟨_,rfl⟩
  have HN:Hid (ds.length=nd):=hnd.symm
  rw [← hnd] at hg HO
  clear hnd
  have hrz:(ba r).size=s.size - c:=by rw [ba_size,hrl]
  by_cases h1:r.length < 12 + numL r
  ·have HA:=fun w=>ahead_none (ba r) w (by rw [hrz];omega) (by rw [ba_data,ba_size];exact h1)
   have HD:Hid (Rd 0 L ds):=by
    refine HS.out.done fun t k=>?_
    rw [HR.out] at k
    have:=k.len
    have:=k.num
    omega
   have e1:=HE.out
   clear h1
   go_wp2_with fail
   clear e1
   refine (HA _).mono ?_
   rintro e w1 ⟨rfl,rfl⟩
   go_wp2
   go_ret2
   refine ⟨u4,ds,?_,HD.out,HS.out.1,?_,hb⟩
   ·rw [HT.out];rfl
   ·rw [HN.out];exact HO.out
  ·obtain ⟨T,hT⟩:∃ T,T=(r.drop 12).take (numL r):=⟨_,rfl⟩
   have hTl:T.length=numL r:=by rw [hT,List.length_take,List.length_drop];omega
   have HA:=fun w=>ahead_some (ba r) w (by rw [hrz];omega) (by rw [ba_data,ba_size];omega)
   rw [ba_data,← hT] at HA
   have HH:Hid (∀ t,Heads nd t r→t=T):=fun t k=>by rw [k.line,hT]
   have hTs:(ba T).size≤100000:=by rw [ba_size];omega
   have hTz:(ba T).size=T.length:=ba_size T
   obtain ⟨ad,cap,hv⟩:∃ ad cap,u4 = .slice ad nd cap:=by
    rcases own_form HO.out with ⟨hv,hn,_⟩ | ⟨g,cap,hv,_⟩
    ·exact ⟨none,0,by rw [hv,hn]⟩
    ·exact ⟨_,_,hv⟩
   subst hv
   have hlen:nd≤100000:=by omega
   clear hT h1
   by_cases h2:200 < T.length
   ·have HF:=fun w=>jframe_long nd (ba T) w (by unfold maxLen;omega) (by omega)
    have HD:Hid (Rd 0 L ds):=by
     refine HS.out.done fun t k=>?_
     rw [HR.out,HN.out] at k
     have e:=HH.out t k
     have:=k.1
     rw [e] at this
     omega
    have e1:=HE.out
    go_wp2_with fail
    clear e1
    refine (HA _).mono ?_
    rintro e w1 ⟨rfl,rfl⟩
    go_wp2_with fail
    refine (HF _).mono ?_
    rintro e w2 ⟨rfl,hb2⟩
    go_wp2
    go_ret2
    refine ⟨.slice ad nd cap,ds,?_,HD.out,HS.out.1,?_,hb.trans (hb2.mono hb.size)⟩
    ·rw [HT.out];rfl
    ·rw [HN.out];exact own_below HO.out hb2 (Nat.le_refl _)
   ·have HF:=fun w=>jframe_ok nd (ba T) w hlen (by omega)
    rw [ba_data] at HF
    have hFz:(ba (frameL nd T)).size=16 + T.length:=by rw [ba_size,frame_len]
    by_cases h3:frameL nd T <+: r
    ·have HP:=fun w=>prefix_yes (ba r) (ba (frameL nd T)) w (by rw [ba_data,ba_data];exact h3)
     have HC:=fun w=>clone_txt (ba T) w (by omega)
     have hk:Heads nd T r:=⟨by omega,hlen,h3⟩
     have hkl:=hk.len
     have HS2:Hid (Sofar L (ds ++ [T])):=HS.out.step (by rw [HR.out,HN.out];exact hk)
     have HT2:Hid (totL (ds ++ [T])=c + (16 + T.length)):=by show _=_;rw [tot_snoc,HT.out]
     have e1:=HE.out
     go_wp2_with fail
     clear e1
     refine (HA _).mono ?_
     rintro e w1 ⟨rfl,rfl⟩
     go_wp2_with fail
     refine (HF _).mono ?_
     rintro e w2 ⟨rfl,hb2⟩
     go_wp2_with fail
     refine (HP _).mono ?_
     rintro e w3 ⟨rfl,rfl⟩
     go_wp2_with fail
     refine (HC _).mono ?_
     rintro e w4 ⟨rfl,hb4⟩
     have h42:=hb2.trans (hb4.mono hb2.size)
     have hBw:Below w.heap.size w w4:=hb.trans (h42.mono hb.size)
     have HO2:Hid (w4.ownsRow w.heap.size 9 1 (.slice ad nd cap) nd (ds.map encS)):=own_below HO.out h42 (Nat.le_refl _)
     clear HO
     go_wp2_with (first
      | (at_builtin;refine wpList_append_own _ rfl _ _ 22 rfl w.heap.size 9 i0 (.string ⟨#[]⟩) 1 16 Tryz.underlying22 hi hz0 hz1 hz2 rfl (by decide) _ _ _ rfl (HO2.out.alloc _) ⟨w4.heap.size,0,none⟩ 1 1 [encS T] rfl rfl ?d1 ?d2 ?d3 ?d4 ?d5 ?_)
      | go_in)
     case d1=>exact cells_of_list rfl
     case d2=>intro u hu;simp only [List.mem_singleton] at hu;subst hu;rfl
     case d3=>unfold maxLen;omega
     case d4=>omega
     case d5=>have:=hBw.size;simp;omega
     ·intro v' w5 hown5 hgr _
      go_wp2
      go_roundw
      case rel=>
       refine ⟨ds ++ [T],HS2,?_,?_,?_⟩
       ·rw [HT2.out];go_num
       ·show World.ownsRow _ _ _ _ _ _ _
        rw [List.length_append,HN.out,List.map_append]
        exact hown5
       ·exact (hBw.alloc (by have:=hBw.size;omega) _).grown hgr (by have:=hBw.size;simp;omega) (fun j hj=>(HO2.out.lt j hj).1)
      case measure=>simp [intOf];omega
    ·have HP:=fun w=>prefix_no (ba r) (ba (frameL nd T)) w (by rw [ba_data,ba_data];exact h3)
     have HD:Hid (Rd 0 L ds):=by
      refine HS.out.done fun t k=>?_
      rw [HR.out,HN.out] at k
      have e:=HH.out t k
      have:=k.2.2
      rw [e] at this
      exact h3 this
     have e1:=HE.out
     clear h3
     go_wp2_with fail
     clear e1
     refine (HA _).mono ?_
     rintro e w1 ⟨rfl,rfl⟩
     go_wp2_with fail
     refine (HF _).mono ?_
     rintro e w2 ⟨rfl,hb2⟩
     go_wp2_with fail
     refine (HP _).mono ?_
     rintro e w3 ⟨rfl,rfl⟩
     go_wp2
     go_ret2
     refine ⟨.slice ad nd cap,ds,?_,HD.out,HS.out.1,?_,hb.trans (hb2.mono hb.size)⟩
     ·rw [HT.out];rfl
     ·rw [HN.out];exact own_below HO.out hb2 (Nat.le_refl _)
set_option maxHeartbeats 4000000 in
theorem rsum_any (s:ByteArray) (w:World) (hs:s.size≤1000000) :
  Calls Tryz.prog 68 #[.string s] w fun e w'=>e = .returned (.int .u32 (sumL s.data.toList:Nat))∧w'=w:=by
 go_enter Tryz.func68,Tryz.ntmps68
 go_wp2
 go_loop [3,10] (fun c i=>∃ k:Nat,k≤s.size∧i = .int .i64 k∧c = .int .u32 (crL (s.data.toList.take k):Nat)) (fun _ i=>s.size - (intOf i).toNat)
 case atStart=>exact ⟨0,Nat.zero_le _,rfl,rfl⟩
 case round=>
  obtain ⟨k,hk,rfl,rfl⟩:=hrel
  have hc:=crL_lt (s.data.toList.take k)
  by_cases hlt:k < s.size
  ·have HS:Hid (crL (s.data.toList.take (k + 1))=crB (crL (s.data.toList.take k)) s[k]):=by rw [take_snocB s k hlt];exact crL_snoc _ _
   obtain ⟨c,hcv⟩:∃ c,c=crL (s.data.toList.take k):=⟨_,rfl⟩
   rw [← hcv] at hc HS ⊢
   clear hcv
   have hb:=byte_lt s[k]
   go_wp2
   go_loop [3,13] (fun d j=>∃ m:Nat,m≤8∧j = .int .i64 m∧d = .int .u32 (rfN c s[k] m:Nat)) (fun _ j=>8 - (intOf j).toNat)
   case atStart=>exact ⟨0,Nat.zero_le _,rfl,rfl⟩
   case round=>
    obtain ⟨m,hm,rfl,rfl⟩:=hrel
    have hd:=rfN_lt hc s[k] m
    have HN:Hid (rfN c s[k] (m + 1)=rfT (rfN c s[k] m) s[k] m):=rfl
    obtain ⟨d,hdv⟩:∃ d,d=rfN c s[k] m:=⟨_,rfl⟩
    rw [← hdv] at hd HN ⊢
    by_cases hm8:m < 8
    ·clear hdv
     have hql:s[k].toNat / 2 ^ m≤s[k].toNat:=Nat.div_le_self _ _
     have hcast:((s[k].toNat:Int) / 2 ^ m)=((s[k].toNat / 2 ^ m:Nat):Int):=by simp
     have a1:bits .and .u32 ((s[k].toNat:Int) / 2 ^ m) 1=((s[k].toNat / 2 ^ m % 2:Nat):Int):=by
      rw [hcast,show (1:Int)=((1:Nat):Int) from rfl,u32_and_nat _ 1 (by omega) (by omega),nat_mask1]
     have HT:Hid (rfT d s[k] m=if (d ^^^ (s[k].toNat / 2 ^ m % 2)) % 2=1 then (d / 2) ^^^ 3988292384 else d / 2):=rfl
     obtain ⟨q,hq⟩:∃ q,q=s[k].toNat / 2 ^ m % 2:=⟨_,rfl⟩
     have hq2:q < 2:=by omega
     rw [← hq] at a1 HT
     have a2:=u32_xor_nat d q hd (by omega)
     have hx:d ^^^ q < 4294967296:=Nat.xor_lt_two_pow (n:=32) hd (by omega)
     have a3:bits .and .u32 ((d ^^^ q:Nat):Int) 1=((((d ^^^ q) % 2:Nat)):Int):=by rw [show (1:Int)=((1:Nat):Int) from rfl,u32_and_nat _ 1 hx (by omega),nat_mask1]
     have hx2:=u32_xor_nat (d / 2) 3988292384 (by omega) (by omega)
     clear hcast hql hq
     by_cases ho:(d ^^^ q) % 2=1
     ·rw [ho] at a3
      rw [if_pos ho] at HT
      go_wp2
      go_round
      case rel=>exact ⟨m + 1,by omega,by go_num,by rw [HN.out,HT.out];exact congrArg (Value.int .u32) hx2⟩
      case measure=>simp [intOf];omega
     ·have ho':(d ^^^ q) % 2=0:=by omega
      rw [ho'] at a3
      rw [if_neg ho] at HT
      go_wp2
      go_round
      case rel=>exact ⟨m + 1,by omega,by go_num,by rw [HN.out,HT.out];rfl⟩
      case measure=>simp [intOf];omega
    ·obtain rfl:m=8:=by omega
     have HB:Hid (d=crB c s[k]):=by show _=_;rw [hdv];exact rf_crB _ _
     clear hdv HN
     go_wp2
     go_round
     case rel=>exact ⟨k + 1,by omega,by go_num,by rw [HS.out,HB.out]⟩
     case measure=>simp [intOf];omega
  ·have ht:s.data.toList.take k=s.data.toList:=List.take_of_length_le (by simp;omega)
   rw [ht] at hc ⊢
   have HR:Hid (sumL s.data.toList=4294967295 - crL s.data.toList):=rfl
   clear ht
   obtain ⟨c,hcv⟩:∃ c,c=crL s.data.toList:=⟨_,rfl⟩
   rw [← hcv] at hc HR ⊢
   clear hcv
   have HN:Hid ((4294967295:Int) - (c:Int)=((4294967295 - c:Nat):Int)):=by show _=_;omega
   go_wp2
   go_ret
   exact ⟨by rw [HR.out,← HN.out];rfl,rfl⟩
def fourK (n k:Nat):List UInt8:=(fourL n).take k
theorem fourK_step (n k:Nat) (h:k < 4):fourK n (k + 1)=fourK n k ++ [(n / 256 ^ k % 256).toUInt8]:=by
 unfold fourK
 rw [List.take_succ_eq_append_getElem (by rw [four_len];exact h)]
 obtain rfl | rfl | rfl | rfl:k=0∨k=1∨k=2∨k=3:=by omega
 all_goals simp [fourL]
set_option maxRecDepth 20000 in
set_option maxHeartbeats 4000000 in
theorem rfour_any (n:Nat) (w:World) (hn:n < 4294967296) :
  Calls Tryz.prog 67 #[.int .u32 n] w fun e w'=>e = .returned (.string (ba (fourL n)))∧Below w.heap.size w w':=by
 go_enter Tryz.func67,Tryz.ntmps67
 go_wp2
 go_loopw [0,3,4] (fun m s i wr=>∃ k:Nat,k≤4∧i = .int .i64 k∧m = .int .u32 (n / 256 ^ k:Nat)∧s = .string (ba (fourK n k))∧Below w.heap.size w wr) (fun _ _ i _=>4 - (intOf i).toNat)
 case atStart=>exact ⟨0,Nat.zero_le _,rfl,by simp,rfl,Below.refl _ _⟩
 case round=>
  obtain ⟨k,hk,rfl,rfl,rfl,hb⟩:=hrel
  by_cases hlt:k < 4
  ·have hq:n / 256 ^ k≤n:=Nat.div_le_self _ _
   have HD:Hid (n / 256 ^ (k + 1)=n / 256 ^ k / 256):=by show _=_;rw [Nat.pow_succ,Nat.div_div_eq_div_mul]
   have HK:Hid (fourK n (k + 1)=fourK n k ++ [(n / 256 ^ k % 256).toUInt8]):=fourK_step n k hlt
   obtain ⟨q,hqv⟩:∃ q,q=n / 256 ^ k:=⟨_,rfl⟩
   rw [← hqv] at hq HD HK ⊢
   clear hqv
   obtain ⟨X,hX⟩:∃ X,X=ba (fourK n k):=⟨_,rfl⟩
   have hXz:X.size=k:=by rw [hX,ba_size];unfold fourK;rw [List.length_take,four_len];omega
   have HX:Hid (X=ba (fourK n k)):=hX
   rw [← hX]
   clear hX
   have hrun:=run_convert_bytes_arg (P:=Tryz.prog) (wr.alloc (Obj.cells #[.int .u8 ((q:Int) % 256)] 5)) 66 5 Tryz.underlying66 Tryz.underlying5 wr.heap.size 0 1 1 [(q:Int) % 256] rfl (fun i hi=>by
    obtain rfl:i=0:=by omega
    simp [go_sem]) 9 Tryz.underlying9
   have HY:Hid (X ++ strOfNums [(q:Int) % 256]=ba (fourK n (k + 1))):=by
    show _=_
    rw [HX.out,HK.out,← ba_app]
    congr 1
   have hb2:Below w.heap.size w (wr.alloc (Obj.cells #[.int .u8 ((q:Int) % 256)] 5)):=hb.alloc hb.size _
   have hz1:(strOfNums [(q:Int) % 256]).size=1:=strOfNums_size _
   obtain ⟨Y,hY⟩:∃ Y,Y=strOfNums [(q:Int) % 256]:=⟨_,rfl⟩
   rw [← hY] at hrun HY hz1
   clear hY
   go_wp2
   go_roundw
   case rel=>
    refine ⟨k + 1,by omega,by go_num,?_,?_,hb2⟩
    ·rw [HD.out];rfl
    ·rw [HY.out]
   case measure=>simp [intOf];omega
  ·obtain rfl:k=4:=by omega
   have HE:Hid (fourK n 4=fourL n):=rfl
   rw [HE.out]
   go_wp2
   go_ret
   exact ⟨rfl,hb⟩
end Go.Proofs.YtdkhohlhdiekmaaGreatDoor
namespace Go.Proofs.YtdkhohlhdiekmaaGreatDoor
open Go.RowKit Go.ChangeShapes Go.WideShapes
def StrsC (w:World) (ao:Option Addr) (l:List (List UInt8)):Prop:=0 < l.length→∃ b off,ao=some ⟨b,off,none⟩∧b < w.heap.size∧∀ k (hk:k < l.length),w.cell? ⟨b,off + k,none⟩=some (encS l[k])
theorem StrsC.below {w w':World} {ao:Option Addr} {l:List (List UInt8)} (h:StrsC w ao l) (hb:Below w.heap.size w w'):StrsC w' ao l:=fun hp=>by
 obtain ⟨b,off,e,hlt,hc⟩:=h hp
 exact ⟨b,off,e,Nat.lt_of_lt_of_le hlt hb.size,fun k hk=>(hb.cell (p:=⟨b,off + k,none⟩) hlt).trans (hc k hk)⟩
theorem strs_of_own {w:World} {B:Nat} {v:Value} {l:List (List UInt8)} (h:w.ownsRow B 9 1 v l.length (l.map encS)):∃ ao cap,v = .slice ao l.length cap∧l.length≤cap∧StrsC w ao l:=by
 rcases own_form h with ⟨hv,hn,_⟩ | ⟨g,cap,hv,_,hg,hc,_⟩
 ·exact ⟨none,0,by rw [hv,hn],by omega,fun hp=>by omega⟩
 ·subst hv
  refine ⟨_,cap,rfl,hc,fun _=>⟨g,0,rfl,hg,fun k hk=>?_⟩⟩
  have:=h.cellAt k (by omega)
  rw [Nat.zero_add,this,List.getElem?_map,List.getElem?_eq_getElem hk]
  rfl
section
variable {H:Type} {enc:TypeId × Value→H} {w:World} {spare:Nat→Bool} {held:Bool}
theorem open_strs {fuel:Nat} {cs:List Value} {x:DataW H × List MemPlace} (h:DataW.trod enc Tryz.prog w 0 spare held fuel 22 cs=some x) :
  ∃ (ao:Option Addr) (cap:Nat) (l:List (List UInt8)),cs=[.slice ao l.length cap]∧(∀ t ∈ l,t.length≤maxLen)∧StrsC w ao l∧l.length≤cap∧cap≤maxLen:=by
 rcases open_strings Tryz.underlying22 Tryz.underlying9 (by kernel_rfl) h with ⟨hcs,_⟩ | ⟨a,len,cap,ss,hcs,_,hl,hm,hn,_,hcell,hsz⟩
 ·exact ⟨none,0,[],hcs,fun x hx=>(by cases hx),fun hp=>absurd hp (Nat.lt_irrefl _),Nat.zero_le _,Nat.zero_le _⟩
 ·have hlm:len≤ss.length:=by rw [hn];split <;> omega
  have hlen:((ss.take len).map fun s=>s.data.toList).length=len:=by rw [List.length_map,List.length_take];omega
  refine ⟨some a,cap,(ss.take len).map fun s=>s.data.toList,by rw [hlen];exact hcs,fun t ht=>?_,fun hp=>?_,by rw [hlen];exact hl,hm⟩
  ·obtain ⟨s,hs,rfl⟩:=List.mem_map.1 ht
   rw [size_data]
   exact hsz s (List.mem_of_mem_take hs)
  ·rw [hlen] at hp
   have c0:=hcell 0 (by omega)
   have hs:a.spot=none:=by
    cases hsp:a.spot with
    | none=>rfl
    | some s=>
     simp [World.cell?,Addr.add,hsp] at c0
     split at c0 <;> simp at c0
   obtain ⟨b,off,sp⟩:=a
   simp only at hs
   subst hs
   have hb:b < w.heap.size:=World.block_lt_of_cell? _ _ c0
   refine ⟨b,off,rfl,hb,fun k hk=>?_⟩
   rw [hlen] at hk
   have:=hcell k (by omega)
   rw [Addr.add_lit] at this
   rw [this,List.getD_eq_getElem?_getD,List.getElem?_eq_getElem (by omega)]
   simp only [Option.getD_some,encS,List.getElem_map,List.getElem_take,ba_of]
end
end Go.Proofs.YtdkhohlhdiekmaaGreatDoor
namespace Go.Proofs.YtdkhohlhdiekmaaGreatDoor
open Go.RowKit
set_option maxHeartbeats 2000000 in
theorem rframe_ok (n:Nat) (t:ByteArray) (w:World) (hn:n≤100000) (ht:t.size≤200) :
  Calls Tryz.prog 28 #[.int .i64 n,.string t] w fun e w'=>e = .returned (.tuple #[.string (ba (frameL n t.data.toList)),.int .i64 0])∧Below w.heap.size w w':=by
 obtain ⟨l,rfl⟩:∃ l,t=ba l:=⟨_,(ba_of t).symm⟩
 rw [ba_data]
 have hl:l.length=(ba l).size:=(ba_size l).symm
 have N1:=fun w=>rfour_any l.length w (by omega)
 have N2:=fun w=>rfour_any n w (by omega)
 have S1:=fun w=>rsum_any (ba (headL n l)) w (by rw [ba_size,head_len];omega)
 have S2:=fun w=>rsum_any (ba (bodyL n l)) w (by rw [ba_size,body_len];omega)
 rw [ba_data] at S1 S2
 have N3:=fun w=>rfour_any (sumL (headL n l)) w (sumL_lt _)
 have N4:=fun w=>rfour_any (sumL (bodyL n l)) w (sumL_lt _)
 have HA:Hid (ba (fourL l.length) ++ ba (fourL n)=ba (headL n l)):=ba_app _ _
 have HB:Hid (ba (headL n l) ++ ba (fourL (sumL (headL n l)))=ba (headL n l ++ fourL (sumL (headL n l)))):=ba_app _ _
 have HC:Hid (ba (headL n l ++ fourL (sumL (headL n l))) ++ ba l=ba (bodyL n l)):=ba_app _ _
 have HD:Hid (ba (bodyL n l) ++ ba (fourL (sumL (bodyL n l)))=ba (frameL n l)):=ba_app _ _
 have z1:(ba (fourL l.length)).size=4:=by rw [ba_size];rfl
 have z2:(ba (fourL n)).size=4:=by rw [ba_size];rfl
 have z3:(ba (headL n l)).size=8:=by rw [ba_size];rfl
 have z4:(ba (fourL (sumL (headL n l)))).size=4:=by rw [ba_size];rfl
 have z5:(ba (headL n l ++ fourL (sumL (headL n l)))).size=12:=by rw [ba_size];rfl
 have z6:(ba (bodyL n l)).size=12 + (ba l).size:=by rw [ba_size,body_len,ba_size]
 have z7:(ba (fourL (sumL (bodyL n l)))).size=4:=by rw [ba_size];rfl
 rw [hl] at N1 HA z1
 go_enter Tryz.func28,Tryz.ntmps28
 clear hl
 go_wp2_with fail
 refine (in_yes n 0 100000 _ (by omega) (by omega)).mono ?_;rintro e w0 ⟨rfl,rfl⟩
 go_wp2_with fail
 refine (N1 _).mono ?_;rintro e w1 ⟨rfl,hb1⟩
 go_wp2_with fail
 refine (N2 _).mono ?_;rintro e w2 ⟨rfl,hb2⟩
 have A1:=HA.out
 go_wp2_with fail
 clear A1
 refine (S1 _).mono ?_;rintro e w3 ⟨rfl,rfl⟩
 go_wp2_with fail
 refine (N3 _).mono ?_;rintro e w4 ⟨rfl,hb4⟩
 have B1:=HB.out
 have C1:=HC.out
 go_wp2_with fail
 clear B1 C1
 refine (S2 _).mono ?_;rintro e w5 ⟨rfl,rfl⟩
 go_wp2_with fail
 refine (N4 _).mono ?_;rintro e w6 ⟨rfl,hb6⟩
 have D1:=HD.out
 go_wp2
 go_ret2
 have h12:=hb1.trans (hb2.mono hb1.size)
 have h14:=h12.trans (hb4.mono h12.size)
 exact ⟨rfl,h14.trans (hb6.mono h14.size)⟩
theorem by_drop (s:ByteArray) (c i:Nat) (h:c + i < s.size):(s[c + i].toNat:Int)=(((s.data.toList.drop c).getD i 0).toNat:Int):=by
 rw [List.getD_eq_getElem?_getD,List.getElem?_drop,List.getElem?_eq_getElem (by rw [size_data];exact h)]
 rfl
set_option maxRecDepth 20000 in
set_option maxHeartbeats 8000000 in
theorem rread_any (s:ByteArray) (w:World) (hs:s.size≤100000) :
  Calls Tryz.prog 35 #[.string s] w (ReadP s.data.toList w):=by
 obtain ⟨i0,hi,hz0,hz1,hz2⟩:=info_parts Tryz.infoStrJ
 have mixed:Tryz.prog.follows .mixedOrders=true:=by kernel_rfl
 obtain ⟨L,hL⟩:∃ L,L=s.data.toList:=⟨_,rfl⟩
 have hLs:L.length=s.size:=by rw [hL,size_data]
 have HLs:Hid (L=s.data.toList):=hL
 rw [← hL]
 clear hL
 go_enter Tryz.func35,Tryz.ntmps35
 go_wp2
 go_loopw [4,5] (fun u c wr=>∃ ds:List (List UInt8),Hid (Sofar L ds)∧c = .int .i64 (totL ds:Nat)∧Hid (wr.ownsRow w.heap.size 9 1 u ds.length (ds.map encS))∧Below w.heap.size w wr) (fun _ c _=>s.size - (intOf c).toNat)
 case atStart=>exact ⟨[],Sofar.nil _,rfl,World.ownsRow_nil _ _ _ _,Below.refl _ _⟩
 case round=>
  obtain ⟨ds,HS,rfl,HO,hb⟩:=hrel
  have ht:=HS.out.1
  rw [hLs] at ht
  have hg:=tot_ge ds
  obtain ⟨c,hc⟩:∃ c,c=totL ds:=⟨_,rfl⟩
  rw [← hc] at ht hg
  obtain ⟨r,hr⟩:∃ r,r=L.drop c:=⟨_,rfl⟩
  have hrl:r.length=s.size - c:=by rw [hr,List.length_drop,hLs]
  have HR:Hid (L.drop (totL ds)=r):=by show _=_;rw [hr,hc]
  have HRC:Hid (s.data.toList.drop c=r):=by show _=_;rw [hr,HLs.out]
  have HT:Hid (totL ds=c):=hc.symm
  rw [← hc]
  clear hc hr
  obtain ⟨nd,hnd⟩:∃ n,n=ds.length:=⟨_,rfl⟩
  have HN:Hid (ds.length=nd):=hnd.symm
  rw [← hnd] at hg HO
  clear hnd
  obtain ⟨ad,cap,hv⟩:∃ ad cap,u4 = .slice ad nd cap:=by
   rcases own_form HO.out with ⟨hv,hn,_⟩ | ⟨g,cap,hv,_⟩
   ·exact ⟨none,0,by rw [hv,hn]⟩
   ·exact ⟨_,_,hv⟩
  subst hv
  by_cases h1:r.length < 16
  ·have HD:Hid (Rd 0 L ds):=by
    refine HS.out.done ?_
    rw [HR.out]
    exact not_heads_short h1
   go_wp2
   go_ret2
   refine ⟨.slice ad nd cap,ds,?_,HD.out,HS.out.1,?_,hb⟩
   ·rw [HT.out];rfl
   ·rw [HN.out];exact HO.out
  ·have b0:=by_drop s c 0 (by omega)
   have b1:=by_drop s c 1 (by omega)
   have b2:=by_drop s c 2 (by omega)
   have b3:=by_drop s c 3 (by omega)
   rw [HRC.out] at b0 b1 b2 b3
   have b0:(s[c].toNat:Int)=((r.getD 0 0).toNat:Int):=b0
   have t0:=byte_lt (r.getD 0 0)
   have t1:=byte_lt (r.getD 1 0)
   have t2:=byte_lt (r.getD 2 0)
   have t3:=byte_lt (r.getD 3 0)
   have HNum:Hid (numL r=(r.getD 0 0).toNat + 256 * (r.getD 1 0).toNat + 65536 * (r.getD 2 0).toNat + 16777216 * (r.getD 3 0).toNat):=rfl
   obtain ⟨x0,e0⟩:∃ x,x=(r.getD 0 0).toNat:=⟨_,rfl⟩
   obtain ⟨x1,e1⟩:∃ x,x=(r.getD 1 0).toNat:=⟨_,rfl⟩
   obtain ⟨x2,e2⟩:∃ x,x=(r.getD 2 0).toNat:=⟨_,rfl⟩
   obtain ⟨x3,e3⟩:∃ x,x=(r.getD 3 0).toNat:=⟨_,rfl⟩
   rw [← e0] at b0 t0 HNum
   rw [← e1] at b1 t1 HNum
   rw [← e2] at b2 t2 HNum
   rw [← e3] at b3 t3 HNum
   clear e0 e1 e2 e3
   have i0':0≤(c:Int)∧(c:Int) < (s.size:Int):=by omega
   have i1':0≤(c:Int) + 1∧(c:Int) + 1 < (s.size:Int):=by omega
   have i2':0≤(c:Int) + 2∧(c:Int) + 2 < (s.size:Int):=by omega
   have i3':0≤(c:Int) + 3∧(c:Int) + 3 < (s.size:Int):=by omega
   have q1:((c:Int) + 1).toNat=c + 1:=by omega
   have q2:((c:Int) + 2).toNat=c + 2:=by omega
   have q3:((c:Int) + 3).toNat=c + 3:=by omega
   go_wp2_with fail
   go_quiet (fail)
   have hbq:Below wr.heap.size wr (wr.drewN nq):=below_drewN (Below.refl _ _) nq
   obtain ⟨W,hW⟩:∃ W,W=wr.drewN nq:=⟨_,rfl⟩
   rw [← hW] at hbq ⊢
   have hbW:Below w.heap.size w W:=hb.trans (hbq.mono hb.size)
   have HOW:Hid (W.ownsRow w.heap.size 9 1 (.slice ad nd cap) nd (ds.map encS)):=own_below HO.out hbq (Nat.le_refl _)
   rw [show ((x0:Int) + 256 * (x1:Int) + 65536 * (x2:Int) + 16777216 * (x3:Int))=((numL r:Nat):Int) by rw [HNum.out];omega]
   have HH:Hid (∀ t,Heads nd t r→t.length=numL r∧t=(r.drop 12).take (numL r)):=fun t k=>⟨k.num.symm,k.line⟩
   obtain ⟨kk,hkk⟩:∃ kk,kk=numL r:=⟨_,rfl⟩
   rw [← hkk] at HH ⊢
   have hkl:kk < 4294967296:=by rw [hkk];exact num_lt r
   clear hW hkk HNum b0 b1 b2 b3 i0' i1' i2' i3' q1 q2 q3 t0 t1 t2 t3 hb HO hbq
   by_cases h2:200 < kk
   ·have HD:Hid (Rd 0 L ds):=by
     refine HS.out.done fun t k=>?_
     rw [HR.out,HN.out] at k
     have:=(HH.out t k).1
     have:=k.1
     omega
    go_wp2
    go_ret2
    refine ⟨.slice ad nd cap,ds,?_,HD.out,HS.out.1,?_,hbW⟩
    ·rw [HT.out];rfl
    ·rw [HN.out];exact HOW.out
   ·by_cases h3:r.length < 16 + kk
    ·have HD:Hid (Rd 0 L ds):=by
      refine HS.out.done fun t k=>?_
      rw [HR.out,HN.out] at k
      have:=(HH.out t k).1
      have:=k.len
      omega
     go_wp2
     go_ret2
     refine ⟨.slice ad nd cap,ds,?_,HD.out,HS.out.1,?_,hbW⟩
     ·rw [HT.out];rfl
     ·rw [HN.out];exact HOW.out
    ·obtain ⟨T,hT⟩:∃ T,T=(r.drop 12).take kk:=⟨_,rfl⟩
     have hTl:T.length=kk:=by rw [hT,List.length_take,List.length_drop];omega
     have HX1:Hid (s.extract (c + 12) (c + 12 + kk)=ba T):=by
      show _=_
      rw [← ba_of (s.extract _ _),ext_data,hT,← HRC.out,List.drop_drop,List.drop_take,show c + 12 + kk - (c + 12)=kk by omega]
     have HX2:Hid (s.extract c (c + 16 + kk)=ba (r.take (16 + kk))):=by
      show _=_
      rw [← ba_of (s.extract _ _),ext_data,← HRC.out,List.drop_take,show c + 16 + kk - c=16 + kk by omega]
     have HHT:Hid (∀ t,Heads nd t r→t=T):=fun t k=>by rw [hT];exact (HH.out t k).2
     have hTz:(ba T).size=kk:=by rw [ba_size,hTl]
     have HF:=fun w=>rframe_ok nd (ba T) w (by omega) (by omega)
     rw [ba_data] at HF
     have e1:((c:Int) + 12).toNat=c + 12:=by omega
     have e2:((c:Int) + 12 + (kk:Int)).toNat=c + 12 + kk:=by omega
     have e3:((c:Int) + 16 + (kk:Int)).toNat=c + 16 + kk:=by omega
     have x1e:=HX1.out
     clear hT HH
     go_wp2_with fail
     clear x1e
     refine (HF _).mono ?_
     rintro e w2 ⟨rfl,hb2⟩
     have hBw:Below w.heap.size w w2:=hbW.trans (hb2.mono hbW.size)
     have HO2:Hid (w2.ownsRow w.heap.size 9 1 (.slice ad nd cap) nd (ds.map encS)):=own_below HOW.out hb2 (Nat.le_refl _)
     clear HOW hb2 hbW HF
     have x2e:=HX2.out
     by_cases h4:frameL nd T <+: r
     ·have hk:Heads nd T r:=⟨by omega,by omega,h4⟩
      have hcmp:((ba (r.take (16 + kk))).toList == (ba (frameL nd T)).toList)=true:=by
       rw [eqlB_iff];apply decide_eq_true
       rw [ba_data,ba_data]
       have:=List.prefix_iff_eq_take.1 h4
       rw [frame_len,hTl] at this
       exact this.symm
      have HS2:Hid (Sofar L (ds ++ [T])):=HS.out.step (by rw [HR.out,HN.out];exact hk)
      have HT2:Hid (totL (ds ++ [T])=c + (16 + kk)):=by show _=_;rw [tot_snoc,HT.out,hTl]
      clear h4 hk
      go_wp2_with (first
       | (at_builtin;refine wpList_append_own _ rfl _ _ 22 rfl w.heap.size 9 i0 (.string ⟨#[]⟩) 1 16 Tryz.underlying22 hi hz0 hz1 hz2 rfl (by decide) _ _ _ rfl (HO2.out.alloc _) ⟨w2.heap.size,0,none⟩ 1 1 [encS T] rfl rfl ?d1 ?d2 ?d3 ?d4 ?d5 ?_)
       | go_in)
      case d1=>exact cells_of_list rfl
      case d2=>intro u hu;simp only [List.mem_singleton] at hu;subst hu;rfl
      case d3=>unfold maxLen;omega
      case d4=>omega
      case d5=>have:=hBw.size;simp;omega
      ·intro v' w5 hown5 hgr _
       go_wp2
       go_roundw
       case rel=>
        refine ⟨ds ++ [T],HS2,?_,?_,?_⟩
        ·rw [HT2.out];go_num
        ·show World.ownsRow _ _ _ _ _ _ _
         rw [List.length_append,HN.out,List.map_append]
         exact hown5
        ·exact (hBw.alloc (by have:=hBw.size;omega) _).grown hgr (by have:=hBw.size;simp;omega) (fun j hj=>(HO2.out.lt j hj).1)
       case measure=>simp [intOf];omega
     ·have HD:Hid (Rd 0 L ds):=by
       refine HS.out.done fun t k=>?_
       rw [HR.out,HN.out] at k
       have e:=HHT.out t k
       have:=k.2.2
       rw [e] at this
       exact h4 this
      have hcmp:((ba (r.take (16 + kk))).toList == (ba (frameL nd T)).toList)=false:=by
       rw [eqlB_iff];apply decide_eq_false
       rw [ba_data,ba_data]
       intro e
       exact h4 (by rw [← e];exact List.take_prefix _ _)
      clear h4
      go_wp2
      go_ret2
      refine ⟨.slice ad nd cap,ds,?_,HD.out,HS.out.1,?_,hBw⟩
      ·rw [HT.out];rfl
      ·rw [HN.out];exact HO2.out
end Go.Proofs.YtdkhohlhdiekmaaGreatDoor
