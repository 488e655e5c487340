/-  -/
import Derived.Test.YtbleojodidbhiaaGreatDoorCsSym
import Derived.Test.YtbleojodidbhiaaGreatDoorBnD
namespace Go.Proofs.YtbleojodidbhiaaGreatDoor
open Go.RowKit
open Go.Sort hiding Below
open Go.Shelf Go.Lib
section
variable {w0:World} {blk off n:Nat} {g:Nat} {cb:Array Value}
set_option maxRecDepth 20000 in
set_option maxHeartbeats 8000000 in
theorem cs_stable (h0:Cs0 w0 blk off n) (eg:∀ args w,(callFunc g args).run Tryz.prog w = .ok (.enter g args) w) (hcmp:CmpG Tryz.prog g cb) (cap:Nat) (hN:n≤1000000) (d:Array EvN) (w:World) (h:Cs w0 blk off n w d) (hq:∀ s t,s < t→t < n→d[s]!.2 < d[t]!.2) :
  Calls Tryz.prog 263 #[.slice (some ⟨blk,off,none⟩) n cap,.int .i64 n,.func (.func g) #[] cb] w (MergesC w0 blk off n 0 n d):=by
 have hsz:=h.size
 have hins:=fun W e (x y:Nat) (hs:Cs w0 blk off n W e) (hx:x≤y) (hy:y≤n) (hqq:∀ s t,x≤s→s < t→t < y→e[s]!.2 < e[t]!.2)=>cs_insertion csP rfl h0 eg hcmp e W hs cap x y hx hy hN hqq
 have hsym:=fun W e (x y z:Nat) (hs:Cs w0 blk off n W e) (hx:x < y) (hy:y < z) (hz:z≤n) (s1:SortedIn ltP x y e) (s2:SortedIn ltP y z e) (s3:Ap qP x y z e)=>cs_sym_any h0 eg hcmp cap hN (z - x) x y z rfl hx hy hz e W hs s1 s2 s3
 have HS0:Hid (Cs w0 blk off n w d):=h
 have HI:Hid _:=hins
 have HM:Hid _:=hsym
 have HQ:Hid (∀ s t,s < t→t < n→d[s]!.2 < d[t]!.2):=hq
 clear hins hsym hq
 clear h hcmp
 go_enter Tryz.func263,Tryz.ntmps263
 go_wp2
 go_loopw [7,8] (fun i j wr=>∃ (a:Nat) (e:Array EvN),a≤n∧i = .int .i64 a∧j = .int .i64 (a + 20:Nat)∧Hid (Cs w0 blk off n wr e)∧Hid (Fst ltP a e)∧Hid (CrB qP n 20 e∧∀ t,a≤t→e[t]! = d[t]!)∧Hid (PermIn 0 n d e)) (fun i j _=>1000001 - (intOf i).toNat)
 case atStart=>exact ⟨0,d,Nat.zero_le _,rfl,rfl,HS0,fst_start d,⟨fun j x _ s t h1 h2 h3=>HQ.out s t (by omega) h3,fun t _=>rfl⟩,permIn_refl _ _ _⟩
 case round=>
  obtain ⟨a,e,ha,rfl,rfl,HS,HF,HC,HP⟩:=hrel
  have HQ2:Hid (∀ b,b≤n→∀ s t,a≤s→s < t→t < b→e[s]!.2 < e[t]!.2):=fun b hb s t h1 h2 h3=>by rw [HC.out.2 t (by omega),HC.out.2 s h1];exact HQ.out s t h2 (by omega)
  have hes:=HS.out.size
  by_cases hb:a + 20≤n
  ·have z1:(a:Int) + 20≤(n:Int):=by omega
   have hc:=HI.out wr e a (a + 20) HS.out (by omega) hb (HQ2.out _ hb)
   rw [show ((a + 20:Nat):Int)=(a:Int) + 20 from rfl] at hc
   go_wp2_with fail
   refine hc.mono ?_
   rintro e3 w2 ⟨rfl,d2,hs2,hw2,hp2⟩
   have HS2:Hid (Cs w0 blk off n w2 d2):=hs2
   have HF2:Hid (Fst ltP (a + 20) d2):=fst_step HF.out hw2 hp2
   have HC2:Hid (CrB qP n 20 d2∧∀ t,a + 20≤t→d2[t]! = d[t]!):=⟨fun j x hx=>cr_keep (HC.out.1 j x hx) hp2 hb (by omega) (by obtain ⟨⟨k,hk⟩,_⟩:=HF.out;omega),fun t ht=>by rw [hp2.2.1 t (Or.inr ht)];exact HC.out.2 t (by omega)⟩
   have HP2:Hid (PermIn 0 n d d2):=permIn_trans _ _ _ _ _ HP.out (permIn_mono _ _ _ _ _ _ (by omega) (by omega) (by omega) hp2)
   clear hs2 hw2 hp2 hc
   go_wp2
   go_roundw
   case rel=>exact ⟨a + 20,d2,hb,by go_num,by go_num,HS2,HF2,HC2,HP2⟩
   case measure=>simp [intOf];omega
  ·have z1:¬ (a:Int) + 20≤(n:Int):=by omega
   have hc:=HI.out wr e a n HS.out ha (Nat.le_refl _) (HQ2.out _ (Nat.le_refl _))
   go_wp2_with fail
   refine hc.mono ?_
   rintro e3 w2 ⟨rfl,d2,hs2,hw2,hp2⟩
   have HS2:Hid (Cs w0 blk off n w2 d2):=hs2
   have HF2:Hid (Blk ltP 20 n d2):=fst_end HF.out ha (by omega) hw2 hp2
   have HC2:Hid (CrB qP n 20 d2):=fun j x hx=>by
    by_cases hxa:x≤a
    ·exact cr_keep (HC.out.1 j x hx) hp2 (Nat.le_refl _) (by omega) (Or.inl hxa)
    ·obtain ⟨⟨k,hk⟩,_⟩:=HF.out
     exact fun s t _ h2 h3=>by omega
   have HP2:Hid (PermIn 0 n d d2):=permIn_trans _ _ _ _ _ HP.out (permIn_mono _ _ _ _ _ _ (by omega) (by omega) (by omega) hp2)
   clear hs2 hw2 hp2 hc
   go_wp2
   go_loopw [6,7,8,9] (fun i4 i5 i6 i7 wr=>∃ (B:Nat) (e:Array EvN),0 < B∧B≤2000000∧i4 = .int .i64 B∧Hid (Cs w0 blk off n wr e)∧Hid (Blk ltP B n e)∧Hid (CrB qP n B e)∧Hid (PermIn 0 n d e)) (fun i _ _ _ _=>2000001 - (intOf i).toNat)
   case atStart=>exact ⟨20,d2,by omega,by omega,rfl,HS2,HF2,HC2,HP2⟩
   case round=>
    clear HS2 HF2 HC2 HP2 HS HF HC HQ2 HP hes
    obtain ⟨B,e2,hB,hB2,rfl,HS,HF,HC,HP⟩:=hrel
    by_cases hb3:B < n
    ·have z2:(B:Int) < (n:Int):=by omega
     obtain ⟨W1,rfl⟩:∃ x,x=wr:=⟨_,rfl⟩
     have e2B:Hid ((2:Int) * (B:Int)=((2 * B:Nat):Int)):=(by omega:(2:Int) * (B:Int)=((2 * B:Nat):Int))
     go_wp2
     go_loopw [7,8] (fun i j wr=>∃ (a:Nat) (e:Array EvN),a≤n∧i = .int .i64 a∧j = .int .i64 ((a:Int) + 2 * (B:Int))∧Hid (Cs w0 blk off n wr e)∧Hid (Mrg ltP B n a e)∧Hid (CrM qP n B a e)∧Hid (PermIn 0 n d e)) (fun i j _=>1000001 - (intOf i).toNat)
     case atStart=>exact ⟨0,e2,Nat.zero_le _,rfl,by congr 1 <;> omega,HS,mrg_start hB HF.out,crm_start HC.out,HP⟩
     case round=>
      clear HS HF HC HP
      obtain ⟨a,e3,ha,rfl,rfl,HS,HF,HC,HP⟩:=hrel
      have hes:=HS.out.size
      have HH:Hid _:=mrg_here HF.out
      by_cases hb4:a + 2 * B≤n
      ·have z3:(a:Int) + 2 * (B:Int)≤(n:Int):=by omega
       have hh:=HH.out
       rw [Nat.min_eq_left (by omega),Nat.min_eq_left (by omega)] at hh
       have hc:=HM.out wr e3 a (a + B) (a + 2 * B) HS.out (by omega) (by omega) hb4 hh.1 hh.2 (crm_ap HC.out HF.out hb4)
       rw [show ((a + B:Nat):Int)=(a:Int) + B by omega,show ((a + 2 * B:Nat):Int)=(a:Int) + 2 * (B:Int) by omega] at hc
       clear hh
       go_wp2_with fail
       refine hc.mono ?_
       rintro e4 w2 ⟨rfl,d2,hs2,hw2,hp2⟩
       have HS2:Hid (Cs w0 blk off n w2 d2):=hs2
       have HF2:Hid (Mrg ltP B n (a + 2 * B) d2):=mrg_step HF.out hw2 hp2
       have HC2:Hid (CrM qP n B (a + 2 * B) d2):=crm_step HC.out HF.out (by omega) hb4 hp2
       have HP2:Hid (PermIn 0 n d d2):=permIn_trans _ _ _ _ _ HP.out (permIn_mono _ _ _ _ _ _ (by omega) (by omega) (by omega) hp2)
       clear hs2 hw2 hp2 hc
       go_wp2
       go_roundw
       case rel=>exact ⟨a + 2 * B,d2,hb4,by congr 1 <;> omega,by congr 1 <;> omega,HS2,HF2,HC2,HP2⟩
       case measure=>simp [intOf];omega
      ·have z3:¬ (a:Int) + 2 * (B:Int)≤(n:Int):=by omega
       by_cases hm:a + B < n
       ·have z4:(a:Int) + (B:Int) < (n:Int):=by omega
        have hh:=HH.out
        rw [Nat.min_eq_left (by omega),Nat.min_eq_right (by omega)] at hh
        have hc:=HM.out wr e3 a (a + B) n HS.out (by omega) hm (Nat.le_refl _) hh.1 hh.2 (crm_ap HC.out HF.out (Nat.le_refl _))
        rw [show ((a + B:Nat):Int)=(a:Int) + B by omega] at hc
        clear hh
        go_wp2_with fail
        refine hc.mono ?_
        rintro e4 w2 ⟨rfl,d2,hs2,hw2,hp2⟩
        have HS2:Hid (Cs w0 blk off n w2 d2):=hs2
        have HF2:Hid (Blk ltP (2 * B) n d2):=mrg_end HF.out ha (by omega) hw2 hp2
        have HC2:Hid (CrB qP n (2 * B) d2):=crm_end HC.out HF.out (by omega) (by omega) hp2
        have HP2:Hid (PermIn 0 n d d2):=permIn_trans _ _ _ _ _ HP.out (permIn_mono _ _ _ _ _ _ (by omega) (by omega) (by omega) hp2)
        clear hs2 hw2 hp2 hc
        go_wp2
        go_roundw
        case rel=>exact ⟨2 * B,d2,by omega,by omega,by congr 1 <;> omega,HS2,HF2,HC2,HP2⟩
        case measure=>simp [intOf];omega
       ·have z4:¬ (a:Int) + (B:Int) < (n:Int):=by omega
        have HF2:Hid (Blk ltP (2 * B) n e3):=by
         have hh:=HH.out.1
         rw [Nat.min_eq_right (by omega)] at hh
         exact mrg_end HF.out ha (by omega) hh (permIn_refl _ _ _)
        go_wp2
        go_roundw
        case rel=>exact ⟨2 * B,e3,by omega,by omega,by congr 1 <;> omega,HS,HF2,HC.out.1,HP⟩
        case measure=>simp [intOf];omega
    ·have z2:¬ (B:Int) < (n:Int):=by omega
     have hfin:SortedIn ltP 0 n e2:=by
      have:=HF.out 0 0 (by omega)
      rwa [Nat.min_eq_right (by omega)] at this
     have HFIN:Hid (SortedIn ltP 0 n e2):=hfin
     clear hfin
     go_wp2
     go_end0
     exact ⟨rfl,e2,HS.out,HFIN.out,HP.out⟩
end
end Go.Proofs.YtbleojodidbhiaaGreatDoor
namespace Go.Proofs.YtbleojodidbhiaaGreatDoor
open Go.RowKit
open Go.Sort hiding Below
open Go.Shelf Go.Lib
theorem zip_flat (l:List Ev):l.zipIdx.flatMap encP=l.flatMap evC:=by
 have e:l.zipIdx.flatMap encP=(l.zipIdx.map Prod.fst).flatMap evC:=by rw [List.flatMap_map];rfl
 rw [e,List.zipIdx_map_fst]
theorem map_flat (l:List EvN):l.flatMap encP=(l.map (·.1)).flatMap evC:=by rw [List.flatMap_map];rfl
set_option maxHeartbeats 1000000 in
theorem sorts_none (g:Nat) (w:World) :
  Calls Tryz.prog 241 #[.slice none 0 0,.func (.func g) #[] #[]] w fun e w'=>e = .returned (.tuple #[])∧Below w.heap.size w w':=by
 have hi:∀ W,Calls Tryz.prog 148 #[.slice none 0 0,.int .i64 0,.int .i64 0,.func (.func g) #[] #[]] W fun e w'=>e = .returned (.tuple #[])∧Below W.heap.size W w':=fun W=>by
  go_enter Tryz.func148,Tryz.ntmps148
  go_wp2
  refine wp_loop_rounds 1 ?_
  rw [rounds_succ]
  go_wp2
  go_end0
  exact ⟨rfl,Below.refl _ _⟩
 have hs:∀ W,Calls Tryz.prog 263 #[.slice none 0 0,.int .i64 0,.func (.func g) #[] #[]] W fun e w'=>e = .returned (.tuple #[])∧Below W.heap.size W w':=fun W=>by
  go_enter Tryz.func263,Tryz.ntmps263
  go_wp2
  refine wp_loop_rounds 1 ?_
  rw [rounds_succ]
  go_wp2_with fail
  refine (hi _).mono ?_
  rintro e w1 ⟨rfl,hb⟩
  go_wp2
  refine wp_loop_rounds 1 ?_
  rw [rounds_succ]
  go_wp2
  go_end0
  exact ⟨rfl,hb⟩
 go_enter Tryz.func241,Tryz.ntmps241
 go_wp2_with fail
 refine (hs _).mono ?_
 rintro e w1 ⟨rfl,hb⟩
 go_wp2
 go_end0
 exact ⟨rfl,hb⟩
set_option maxHeartbeats 1000000 in
theorem sortS_any {B:Nat} {v:Value} {l:List Ev} {w:World} (h:w.ownsRow B 93 7 v l.length (l.flatMap evC)) (hl:l.length≤1000000) :
  Calls Tryz.prog 241 #[v,.func (.func 49) #[] #[]] w fun e w'=>e = .returned (.tuple #[])∧w'.ownsRow B 93 7 v (stl l).length ((stl l).flatMap evC)∧w.grownBy w' v.ownBlock:=by
 rcases own_form h with ⟨hv,hn,hx⟩ | ⟨g,cap,hv,hgB,hgl,_⟩
 ·subst hv
  have hz:l=[]:=List.length_eq_zero_iff.1 hn
  subst hz
  have hsr:stl []=[]:=List.length_eq_zero_iff.1 (by rw [stl_len];rfl)
  refine (sorts_none _ w).mono fun e w' ⟨he,hb⟩=>⟨he,?_,⟨hb.os,hb.tape,hb.output,hb.size,fun k hk _=>hb.block k hk⟩⟩
  rw [hsr]
  exact World.ownsRow_nil _ _ _ _
 ·subst hv
  have hH:HoldsK encP 7 w g 0 l.zipIdx.toArray:=holdsK_of_own (T:=93) (B:=B) (n:=l.length) (cap:=cap) encP_len (by rw [zip_flat];exact h)
  have hz:l.zipIdx.toArray.size=l.length:=by simp
  have h0:Cs0 w g 0 l.length:=⟨⟨_,hz,hH⟩,hgl⟩
  have h1:Cs w g 0 l.length w l.zipIdx.toArray:=⟨hz,0,#[],by unfold sortWorldK;rw [grow_empty];exact (putRowK_self encP 7 w g 0 _ hH).symm⟩
  have hst:=cs_stable h0 (enters_of Tryz.func49 (by kernel_rfl) rfl) cmpG_compare cap hl l.zipIdx.toArray w h1 (fun s t a b=>by
   rw [getElem!_pos _ s (by simp;omega),getElem!_pos _ t (by simpa using b)]
   simpa using a)
  have fin:∀ e w',MergesC w g 0 l.length 0 l.length l.zipIdx.toArray e w'→e = .returned (.tuple #[])∧w'.ownsRow B 93 7 (.slice (some ⟨g,0,none⟩) l.length cap) (stl l).length ((stl l).flatMap evC)∧w.grownBy w' (Value.ownBlock (.slice (some ⟨g,0,none⟩) l.length cap)):=fun e w' ⟨he,d',hc,hs,hp⟩=>by
   have hs':d'.size=l.length:=hc.size
   obtain ⟨_,m,os,hw⟩:=hc
   have e1:=stl_of (l:=l) (ps:=d'.toList) (by have:=permP (d:=l.zipIdx.toArray) (d':=d') (by simpa using hp);simpa using this) (sortP (by rw [hs'];exact hs))
   refine ⟨he,?_,?_⟩
   ·rw [stl_len,← e1,← map_flat,hw]
    have:=own_sorted (q:=m) (os:=os) (l':=d'.toList) (l:=l.zipIdx) encP_len (by rw [zip_flat];exact h) (by simp [hs'])
    rw [Array.toArray_toList] at this
    exact this
   ·rw [hw]
    exact grown_sorted _
  have HST:Hid _:=fin
  clear fin
  go_enter Tryz.func241,Tryz.ntmps241
  go_wp2_with fail
  refine hst.mono ?_
  rintro e w' hm
  have hf:=HST.out e w' hm
  obtain ⟨rfl,h2,h3⟩:=hf
  clear hm
  go_wp2
  go_end0
  exact ⟨rfl,h2,h3⟩
end Go.Proofs.YtbleojodidbhiaaGreatDoor
