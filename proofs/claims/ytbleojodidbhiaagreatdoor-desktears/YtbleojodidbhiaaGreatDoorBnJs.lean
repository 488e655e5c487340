/-  -/
import Derived.Test.YtbleojodidbhiaaGreatDoorBnJr
import Derived.Test.YtbleojodidbhiaaGreatDoorBnD
import Derived.SliceStrings
namespace Go.Proofs.YtbleojodidbhiaaGreatDoor
open Go.RowKit
def encS (t:List UInt8):Value:=.string (ba t)
theorem Tryz.infoStrJ:(Tryz.prog.info? 9).map (fun i=>(i.zero,i.size,i.bytes))=some (some (.string ⟨#[]⟩),1,16):=by kernel_rfl
theorem tot_ge:∀ (l:List (List UInt8)),16 * l.length≤totL l
 | []=>Nat.le_refl _
 | t :: l=>by have:=tot_ge l;rw [tot_cons,List.length_cons];omega
def ReadP (s:List UInt8) (w:World) (e:Ending) (w':World):Prop:=∃ (v:Value) (ls:List (List UInt8)),e = .returned (.tuple #[v,.int .i64 (totL ls:Nat)])∧Rd 0 s ls∧totL ls≤s.length∧w'.ownsRow w.heap.size 9 1 v ls.length (ls.map encS)∧Below w.heap.size w w'
set_option maxHeartbeats 4000000 in
theorem jread_any (s:ByteArray) (w:World) (hs:s.size≤100000) :
  Calls Tryz.prog 34 #[.string s] w (ReadP s.data.toList w):=by
 obtain ⟨i0,hi,hz0,hz1,hz2⟩:=info_parts Tryz.infoStrJ
 obtain ⟨L,hL⟩:∃ L,L=s.data.toList:=⟨_,rfl⟩
 have hLs:L.length=s.size:=by rw [hL,size_data]
 rw [← hL]
 go_enter Tryz.func34,Tryz.ntmps34
 go_wp2
 go_loopw [4,5] (fun u c wr=>∃ ds:List (List UInt8),Hid (Sofar L ds)∧c = .int .i64 (totL ds:Nat)∧Hid (wr.ownsRow w.heap.size 9 1 u ds.length (ds.map encS))∧Below w.heap.size w wr) (fun _ c _=>s.size - (intOf c).toNat)
 case atStart=>exact ⟨[],Sofar.nil _,rfl,World.ownsRow_nil _ _ _ _,Below.refl _ _⟩
 case round=>
  obtain ⟨ds,HS,rfl,HO,hb⟩:=hrel
  have ht:=HS.out.1
  rw [hLs] at ht
  have hg:=tot_ge ds
  obtain ⟨c,hc⟩:∃ c,c=totL ds:=⟨_,rfl⟩
  rw [← hc] at ht hg
  obtain ⟨r,hr⟩:∃ r,r=L.drop c:=⟨_,rfl⟩
  have hrl:r.length=s.size - c:=by rw [hr,List.length_drop,hLs]
  have HE:Hid (s.extract c s.size=ba r):=by
   show _=_
   rw [← ba_of (s.extract c s.size),ext_data,← size_data s,List.take_length,hr,hL]
  have HR:Hid (L.drop (totL ds)=r):=by show _=_;rw [hr,hc]
  have HT:Hid (totL ds=c):=hc.symm
  rw [← hc]
  clear hc hr
  obtain ⟨nd,hnd⟩:∃ n,n=ds.length:=⟨_,rfl⟩
  have HN:Hid (ds.length=nd):=hnd.symm
  rw [← hnd] at hg HO
  clear hnd
  have hrz:(ba r).size=s.size - c:=by rw [ba_size,hrl]
  by_cases h1:r.length < 12 + numL r
  ·have HA:=fun w=>ahead_none (ba r) w (by rw [hrz];omega) (by rw [ba_data,ba_size];exact h1)
   have HD:Hid (Rd 0 L ds):=by
    refine HS.out.done fun t k=>?_
    rw [HR.out] at k
    have:=k.len
    have:=k.num
    omega
   have e1:=HE.out
   clear h1
   go_wp2_with fail
   clear e1
   refine (HA _).mono ?_
   rintro e w1 ⟨rfl,rfl⟩
   go_wp2
   go_ret2
   refine ⟨u4,ds,?_,HD.out,HS.out.1,?_,hb⟩
   ·rw [HT.out];rfl
   ·rw [HN.out];exact HO.out
  ·obtain ⟨T,hT⟩:∃ T,T=(r.drop 12).take (numL r):=⟨_,rfl⟩
   have hTl:T.length=numL r:=by rw [hT,List.length_take,List.length_drop];omega
   have HA:=fun w=>ahead_some (ba r) w (by rw [hrz];omega) (by rw [ba_data,ba_size];omega)
   rw [ba_data,← hT] at HA
   have HH:Hid (∀ t,Heads nd t r→t=T):=fun t k=>by rw [k.line,hT]
   have hTs:(ba T).size≤100000:=by rw [ba_size];omega
   have hTz:(ba T).size=T.length:=ba_size T
   obtain ⟨ad,cap,hv⟩:∃ ad cap,u4 = .slice ad nd cap:=by
    rcases own_form HO.out with ⟨hv,hn,_⟩ | ⟨g,cap,hv,_⟩
    ·exact ⟨none,0,by rw [hv,hn]⟩
    ·exact ⟨_,_,hv⟩
   subst hv
   have hlen:nd≤100000:=by omega
   clear hT h1
   by_cases h2:200 < T.length
   ·have HF:=fun w=>jframe_long nd (ba T) w (by unfold maxLen;omega) (by omega)
    have HD:Hid (Rd 0 L ds):=by
     refine HS.out.done fun t k=>?_
     rw [HR.out,HN.out] at k
     have e:=HH.out t k
     have:=k.1
     rw [e] at this
     omega
    have e1:=HE.out
    go_wp2_with fail
    clear e1
    refine (HA _).mono ?_
    rintro e w1 ⟨rfl,rfl⟩
    go_wp2_with fail
    refine (HF _).mono ?_
    rintro e w2 ⟨rfl,hb2⟩
    go_wp2
    go_ret2
    refine ⟨.slice ad nd cap,ds,?_,HD.out,HS.out.1,?_,hb.trans (hb2.mono hb.size)⟩
    ·rw [HT.out];rfl
    ·rw [HN.out];exact own_below HO.out hb2 (Nat.le_refl _)
   ·have HF:=fun w=>jframe_ok nd (ba T) w hlen (by omega)
    rw [ba_data] at HF
    have hFz:(ba (frameL nd T)).size=16 + T.length:=by rw [ba_size,frame_len]
    by_cases h3:frameL nd T <+: r
    ·have HP:=fun w=>prefix_yes (ba r) (ba (frameL nd T)) w (by rw [ba_data,ba_data];exact h3)
     have HC:=fun w=>clone_txt (ba T) w (by omega)
     have hk:Heads nd T r:=⟨by omega,hlen,h3⟩
     have hkl:=hk.len
     have HS2:Hid (Sofar L (ds ++ [T])):=HS.out.step (by rw [HR.out,HN.out];exact hk)
     have HT2:Hid (totL (ds ++ [T])=c + (16 + T.length)):=by show _=_;rw [tot_snoc,HT.out]
     have e1:=HE.out
     go_wp2_with fail
     clear e1
     refine (HA _).mono ?_
     rintro e w1 ⟨rfl,rfl⟩
     go_wp2_with fail
     refine (HF _).mono ?_
     rintro e w2 ⟨rfl,hb2⟩
     go_wp2_with fail
     refine (HP _).mono ?_
     rintro e w3 ⟨rfl,rfl⟩
     go_wp2_with fail
     refine (HC _).mono ?_
     rintro e w4 ⟨rfl,hb4⟩
     have h42:=hb2.trans (hb4.mono hb2.size)
     have hBw:Below w.heap.size w w4:=hb.trans (h42.mono hb.size)
     have HO2:Hid (w4.ownsRow w.heap.size 9 1 (.slice ad nd cap) nd (ds.map encS)):=own_below HO.out h42 (Nat.le_refl _)
     clear HO
     go_wp2_with (first
      | (at_builtin;refine wpList_append_own _ rfl _ _ 22 rfl w.heap.size 9 i0 (.string ⟨#[]⟩) 1 16 Tryz.underlying22 hi hz0 hz1 hz2 rfl (by decide) _ _ _ rfl (HO2.out.alloc _) ⟨w4.heap.size,0,none⟩ 1 1 [encS T] rfl rfl ?d1 ?d2 ?d3 ?d4 ?d5 ?_)
      | go_in)
     case d1=>exact cells_of_list rfl
     case d2=>intro u hu;simp only [List.mem_singleton] at hu;subst hu;rfl
     case d3=>unfold maxLen;omega
     case d4=>omega
     case d5=>have:=hBw.size;simp;omega
     ·intro v' w5 hown5 hgr _
      go_wp2
      go_roundw
      case rel=>
       refine ⟨ds ++ [T],HS2,?_,?_,?_⟩
       ·rw [HT2.out];go_num
       ·show World.ownsRow _ _ _ _ _ _ _
        rw [List.length_append,HN.out,List.map_append]
        exact hown5
       ·exact (hBw.alloc (by have:=hBw.size;omega) _).grown hgr (by have:=hBw.size;simp;omega) (fun j hj=>(HO2.out.lt j hj).1)
      case measure=>simp [intOf];omega
    ·have HP:=fun w=>prefix_no (ba r) (ba (frameL nd T)) w (by rw [ba_data,ba_data];exact h3)
     have HD:Hid (Rd 0 L ds):=by
      refine HS.out.done fun t k=>?_
      rw [HR.out,HN.out] at k
      have e:=HH.out t k
      have:=k.2.2
      rw [e] at this
      exact h3 this
     have e1:=HE.out
     clear h3
     go_wp2_with fail
     clear e1
     refine (HA _).mono ?_
     rintro e w1 ⟨rfl,rfl⟩
     go_wp2_with fail
     refine (HF _).mono ?_
     rintro e w2 ⟨rfl,hb2⟩
     go_wp2_with fail
     refine (HP _).mono ?_
     rintro e w3 ⟨rfl,rfl⟩
     go_wp2
     go_ret2
     refine ⟨.slice ad nd cap,ds,?_,HD.out,HS.out.1,?_,hb.trans (hb2.mono hb.size)⟩
     ·rw [HT.out];rfl
     ·rw [HN.out];exact own_below HO.out hb2 (Nat.le_refl _)
end Go.Proofs.YtbleojodidbhiaaGreatDoor
namespace Go.Proofs.YtbleojodidbhiaaGreatDoor
open Go.RowKit Go.ChangeShapes Go.WideShapes
def StrsC (w:World) (ao:Option Addr) (l:List (List UInt8)):Prop:=0 < l.length→∃ b off,ao=some ⟨b,off,none⟩∧b < w.heap.size∧∀ k (hk:k < l.length),w.cell? ⟨b,off + k,none⟩=some (encS l[k])
theorem StrsC.below {w w':World} {ao:Option Addr} {l:List (List UInt8)} (h:StrsC w ao l) (hb:Below w.heap.size w w'):StrsC w' ao l:=fun hp=>by
 obtain ⟨b,off,e,hlt,hc⟩:=h hp
 exact ⟨b,off,e,Nat.lt_of_lt_of_le hlt hb.size,fun k hk=>(hb.cell (p:=⟨b,off + k,none⟩) hlt).trans (hc k hk)⟩
theorem StrsC.take {w:World} {ao:Option Addr} {l:List (List UInt8)} (h:StrsC w ao l) (n:Nat):StrsC w ao (l.take n):=fun hp=>by
 have hl:(l.take n).length≤l.length:=by rw [List.length_take];omega
 obtain ⟨b,off,e,hlt,hc⟩:=h (by omega)
 exact ⟨b,off,e,hlt,fun k hk=>by rw [hc k (by omega),List.getElem_take]⟩
theorem strs_of_own {w:World} {B:Nat} {v:Value} {l:List (List UInt8)} (h:w.ownsRow B 9 1 v l.length (l.map encS)):∃ ao cap,v = .slice ao l.length cap∧l.length≤cap∧StrsC w ao l:=by
 rcases own_form h with ⟨hv,hn,_⟩ | ⟨g,cap,hv,_,hg,hc,_⟩
 ·exact ⟨none,0,by rw [hv,hn],by omega,fun hp=>by omega⟩
 ·subst hv
  refine ⟨_,cap,rfl,hc,fun _=>⟨g,0,rfl,hg,fun k hk=>?_⟩⟩
  have:=h.cellAt k (by omega)
  rw [Nat.zero_add,this,List.getElem?_map,List.getElem?_eq_getElem hk]
  rfl
section
variable {H:Type} {enc:TypeId × Value→H} {w:World} {spare:Nat→Bool} {held:Bool}
theorem open_strs {fuel:Nat} {cs:List Value} {x:DataW H × List MemPlace} (h:DataW.trod enc Tryz.prog w 0 spare held fuel 22 cs=some x) :
  ∃ (ao:Option Addr) (cap:Nat) (l:List (List UInt8)),cs=[.slice ao l.length cap]∧(∀ t ∈ l,t.length≤maxLen)∧StrsC w ao l∧l.length≤cap∧cap≤maxLen:=by
 rcases open_strings Tryz.underlying22 Tryz.underlying9 (by kernel_rfl) h with ⟨hcs,_⟩ | ⟨a,len,cap,ss,hcs,_,hl,hm,hn,_,hcell,hsz⟩
 ·exact ⟨none,0,[],hcs,fun x hx=>(by cases hx),fun hp=>absurd hp (Nat.lt_irrefl _),Nat.zero_le _,Nat.zero_le _⟩
 ·have hlm:len≤ss.length:=by rw [hn];split <;> omega
  have hlen:((ss.take len).map fun s=>s.data.toList).length=len:=by rw [List.length_map,List.length_take];omega
  refine ⟨some a,cap,(ss.take len).map fun s=>s.data.toList,by rw [hlen];exact hcs,fun t ht=>?_,fun hp=>?_,by rw [hlen];exact hl,hm⟩
  ·obtain ⟨s,hs,rfl⟩:=List.mem_map.1 ht
   rw [size_data]
   exact hsz s (List.mem_of_mem_take hs)
  ·rw [hlen] at hp
   have c0:=hcell 0 (by omega)
   have hs:a.spot=none:=by
    cases hsp:a.spot with
    | none=>rfl
    | some s=>
     simp [World.cell?,Addr.add,hsp] at c0
     split at c0 <;> simp at c0
   obtain ⟨b,off,sp⟩:=a
   simp only at hs
   subst hs
   have hb:b < w.heap.size:=World.block_lt_of_cell? _ _ c0
   refine ⟨b,off,rfl,hb,fun k hk=>?_⟩
   rw [hlen] at hk
   have:=hcell k (by omega)
   rw [Addr.add_lit] at this
   rw [this,List.getD_eq_getElem?_getD,List.getElem?_eq_getElem (by omega)]
   simp only [Option.getD_some,encS,List.getElem_map,List.getElem_take,ba_of]
end
end Go.Proofs.YtbleojodidbhiaaGreatDoor
