/-  -/
import Derived.Test.YtdkhohlhdiekmaaGreatDoorBnCs
namespace Go.Proofs.YtdkhohlhdiekmaaGreatDoor
open Go.RowKit
open Go.Sort hiding Below
open Go.Shelf Go.Lib
def qP (p r:EvN):Prop:=r.2 < p.2
def MergesC (w0:World) (blk off n a b:Nat) (d:Array EvN) (r:Ending) (w':World):Prop:=r = .returned (.tuple #[])∧∃ d',Cs w0 blk off n w' d'∧SortedIn ltP a b d'∧PermIn a b d d'
section
variable {P:Program} {kk:Nat} {w0:World} {blk off n:Nat} {g:Nat} {cb:Array Value}
set_option maxRecDepth 20000 in
set_option maxHeartbeats 4000000 in
theorem cs_merge_one_right (L:CsP P kk) (hkk:kk=7) (h0:Cs0 w0 blk off n) (eg:∀ args w,(callFunc g args).run P w = .ok (.enter g args) w) (hcmp:CmpG P g cb) (cap:Nat) (d:Array EvN) (w:World) (h:Cs w0 blk off n w d) (a m b:Nat) (hm:m=a + 1) (h2:m < b) (h3:b≤n) (hN:n≤1000000) (hs2:SortedIn ltP (a + 1) b d) (hap:Ap qP a m b d) :
  Calls P 261 #[.slice (some ⟨blk,off,none⟩) n cap,.int .i64 a,.int .i64 m,.int .i64 b,.func (.func g) #[] cb] w (MergesC w0 blk off n a b d):=by
 have hsz:=h.size
 have mixed:=L.mixed;have t0:=L.t0;have a0:=L.a0;have z0:=L.z0;have v0:=L.v0;have tI:=L.tI;have aI:=L.aI;have zI:=L.zI;have vI:=L.vI;have tB:=L.tB;have aB:=L.aB;have zB:=L.zB;have vB:=L.vB;have tU:=L.tU;have aU:=L.aU;have zU:=L.zU;have vU:=L.vU;have tL:=L.tL;have aL:=L.aL;have zL:=L.zL;have vL:=L.vL;have tF:=L.tF;have aF:=L.aF;have zF:=L.zF;have vF:=L.vF;have aE:=L.aE;have zE:=L.zE;have uL:=run_underlying L.tL
 have HS0:Hid (Cs w0 blk off n w d):=h
 have HS2:Hid (SortedIn ltP (a + 1) b d):=hs2
 have HC:Hid (CmpG P g cb):=hcmp
 have HAP:Hid (Ap qP a m b d):=hap
 clear hs2 hap hcmp h
 have HKK:Hid (kk=7):=hkk
 clear hkk
 go_enter L.fM,Tryz.ntmps261
 have z0:(m:Int) - (a:Int)=1:=by omega
 have HM:Hid (m=a + 1):=hm
 clear hm
 go_wp2
 go_loopw [10,11] (fun i j wr=>∃ (p z:Nat),a + 1≤p∧p≤z∧z≤b∧i = .int .i64 p∧j = .int .i64 z∧Hid (a + 1 < p→ltP d[p - 1]! d[a]! = true)∧Hid (z < b→ltP d[z]! d[a]! = false)∧Hid (Cs w0 blk off n wr d)) (fun i j _=>(intOf j).toNat - (intOf i).toNat)
 case atStart=>exact ⟨m,b,by omega,by omega,Nat.le_refl _,rfl,rfl,fun h=>absurd h (by omega),fun h=>absurd h (Nat.lt_irrefl _),HS0⟩
 case round=>
  obtain ⟨p,z,hp,hpq,hqb,rfl,rfl,K1,K2,HS⟩:=hrel
  by_cases hlt:p < z
  ·obtain ⟨x,hx⟩:∃ x,x=(p + z) / 2:=⟨_,rfl⟩
   have ex:((p:Int) + (z:Int)) / 2=(x:Int):=by omega
   have HE:Hid (x=(p + z) / 2):=hx
   have hxa:a < x:=by omega
   have hxn:x < n:=by omega
   have HLT:Hid (ltP d[x]! d[a]! = decide (cmpE d[x]!.1 d[a]!.1 < 0)):=cmp_ltP (HAP.out a x (Nat.le_refl _) (by omega) (by omega) (by omega))
   clear hx
   have lj:=fun (n':Nat) (os':Array Obj)=>(HS.out.grown n' os').load h0 HKK.out x hxn P
   have lp:=fun (n':Nat) (os':Array Obj)=>(HS.out.grown n' os').load h0 HKK.out a (by omega) P
   have hcg:=fun (n':Nat) (os':Array Obj)=>HC.out d[x]! d[a]! (grow (wr.drewN n') os')
   generalize encP d[x]! = cx at lj hcg
   generalize encP d[a]! = cy at lp hcg
   generalize hcv:cmpE d[x]!.1 d[a]!.1=cv at hcg
   have HLV:Hid (ltP d[x]! d[a]! = decide (cv < 0)):=by rw [← hcv];exact HLT.out
   clear hcv HLT
   have jz:(x:Int) < (n:Int):=by omega
   have jz1:(a:Int) < (n:Int):=by omega
   by_cases hlv:cv < 0
   ·go_wp2_with fail
    go_quiet_grown (first | (go_at_fn g;refine Calls.grown_of (hcg _ _)))
    go_wp2
    go_roundw
    case rel=>exact ⟨x + 1,z,by omega,by have:=HE.out;omega,hqb,by go_num,rfl,fun _=>by rw [Nat.add_sub_cancel,HLV.out];simpa using hlv,K2,HS.out.grown nq osq⟩
    case measure=>have:=HE.out;simp [intOf];omega
   ·go_wp2_with fail
    go_quiet_grown (first | (go_at_fn g;refine Calls.grown_of (hcg _ _)))
    go_wp2
    go_roundw
    case rel=>exact ⟨p,x,by omega,by have:=HE.out;omega,by have:=HE.out;omega,rfl,rfl,K1,fun _=>by rw [HLV.out];simpa using hlv,HS.out.grown nq osq⟩
    case measure=>have:=HE.out;simp [intOf];omega
  ·obtain rfl:z=p:=by omega
   obtain ⟨W1,rfl⟩:∃ x,x=wr:=⟨_,rfl⟩
   go_wp2
   go_loopw [13] (fun i wr=>∃ (k:Nat) (e:Array EvN),a≤k∧k + 1≤z∧i = .int .i64 k∧Hid (Cs w0 blk off n wr e)∧Hid (Rotated a (a + 1) (k + 1) d e)∧Hid (PermIn a b d e)) (fun i _=>n - (intOf i).toNat)
   case atStart=>exact ⟨a,d,Nat.le_refl _,by omega,rfl,HS,rotated_none_right d,permIn_refl _ _ _⟩
   case round=>
    obtain ⟨k,e,hak,hkq,rfl,HS4,HR4,HP4⟩:=hrel
    by_cases hkl:k + 1 < z
    ·have hes:=HS4.out.size
     obtain ⟨cX,cY,V1,V2,l1,l2,e1,e2,s1,s2,hc⟩:=HS4.out.exch h0 HKK.out P k (k + 1) (by omega) (by omega)
     have HS5:Hid (Cs w0 blk off n V2 (swp e k (k + 1))):=hc
     have HR5:Hid (Rotated a (a + 1) (k + 2) d (swp e k (k + 1))):=rot_right_step HR4.out hak (by omega)
     have HP5:Hid (PermIn a b d (swp e k (k + 1))):=permIn_trans _ _ _ _ _ HP4.out (swp_permIn e a b k (k + 1) (by omega) (by omega) (by omega) (by omega) (by omega))
     have z1:(k:Int) < (z:Int) - 1:=by omega
     have jz:(k:Int) + 1 < (n:Int):=by omega
     have jz1:(k:Int) < (n:Int):=by omega
     have p0:(0:Int)≤(k:Int) + 1:=by omega
     have e0:((k:Int) + 1).toNat=k + 1:=by omega
     clear hc
     go_wp2_with fail
     go_big_region_o
     all_goals go_wp2
     go_roundw
     case rel=>exact ⟨k + 1,_,by omega,by omega,by go_num,HS5,HR5,HP5⟩
     case measure=>simp [intOf];omega
    ·have z1:¬ (k:Int) < (z:Int) - 1:=by omega
     have z2:decide ((k:Int) < (z:Int) - 1)=false:=by simpa using z1
     obtain rfl:z=k + 1:=by omega
     go_wp2
     refine bodyPost_ret (results_none rfl _ _ _) rfl ?_
     exact ⟨rfl,e,HS4.out,one_right swo_P HS2.out (by omega) (by omega) HR4.out K1.out K2.out,HP4.out⟩
set_option maxRecDepth 20000 in
set_option maxHeartbeats 4000000 in
theorem cs_merge_one_left (L:CsP P kk) (hkk:kk=7) (h0:Cs0 w0 blk off n) (eg:∀ args w,(callFunc g args).run P w = .ok (.enter g args) w) (hcmp:CmpG P g cb) (cap:Nat) (d:Array EvN) (w:World) (h:Cs w0 blk off n w d) (a m b:Nat) (hm:b=m + 1) (h2:a + 1 < m) (h3:b≤n) (hN:n≤1000000) (hs2:SortedIn ltP a m d) (hap:Ap qP a m b d) :
  Calls P 261 #[.slice (some ⟨blk,off,none⟩) n cap,.int .i64 a,.int .i64 m,.int .i64 b,.func (.func g) #[] cb] w (MergesC w0 blk off n a b d):=by
 have hsz:=h.size
 have mixed:=L.mixed;have t0:=L.t0;have a0:=L.a0;have z0:=L.z0;have v0:=L.v0;have tI:=L.tI;have aI:=L.aI;have zI:=L.zI;have vI:=L.vI;have tB:=L.tB;have aB:=L.aB;have zB:=L.zB;have vB:=L.vB;have tU:=L.tU;have aU:=L.aU;have zU:=L.zU;have vU:=L.vU;have tL:=L.tL;have aL:=L.aL;have zL:=L.zL;have vL:=L.vL;have tF:=L.tF;have aF:=L.aF;have zF:=L.zF;have vF:=L.vF;have aE:=L.aE;have zE:=L.zE;have uL:=run_underlying L.tL
 have HS0:Hid (Cs w0 blk off n w d):=h
 have HS2:Hid (SortedIn ltP a m d):=hs2
 have HC:Hid (CmpG P g cb):=hcmp
 have HAP:Hid (Ap qP a m b d):=hap
 clear hs2 hap hcmp h
 have HKK:Hid (kk=7):=hkk
 clear hkk
 go_enter L.fM,Tryz.ntmps261
 have z0:¬ (m:Int) - (a:Int)=1:=by omega
 have z0b:((m:Int) - (a:Int) == 1)=false:=by simpa using z0
 have z3:(b:Int) - (m:Int)=1:=by omega
 have HM:Hid (b=m + 1):=hm
 clear hm
 go_wp2
 go_loopw [14,15] (fun i j wr=>∃ (p z:Nat),a≤p∧p≤z∧z≤m∧i = .int .i64 p∧j = .int .i64 z∧Hid (a < p→ltP d[m]! d[p - 1]! = false)∧Hid (z < m→ltP d[m]! d[z]! = true)∧Hid (Cs w0 blk off n wr d)) (fun i j _=>(intOf j).toNat - (intOf i).toNat)
 case atStart=>exact ⟨a,m,Nat.le_refl _,by omega,Nat.le_refl _,rfl,rfl,fun h=>absurd h (Nat.lt_irrefl _),fun h=>absurd h (Nat.lt_irrefl _),HS0⟩
 case round=>
  obtain ⟨p,z,hp,hpq,hqb,rfl,rfl,K1,K2,HS⟩:=hrel
  by_cases hlt:p < z
  ·obtain ⟨x,hx⟩:∃ x,x=(p + z) / 2:=⟨_,rfl⟩
   have ex:((p:Int) + (z:Int)) / 2=(x:Int):=by omega
   have HE:Hid (x=(p + z) / 2):=hx
   have hxn:x < m:=by omega
   have HLT:Hid (ltP d[m]! d[x]! = decide (cmpE d[m]!.1 d[x]!.1 < 0)):=cmp_ltP (HAP.out x m (by omega) (by omega) (Nat.le_refl _) (by omega))
   clear hx
   have lj:=fun (n':Nat) (os':Array Obj)=>(HS.out.grown n' os').load h0 HKK.out m (by omega) P
   have lp:=fun (n':Nat) (os':Array Obj)=>(HS.out.grown n' os').load h0 HKK.out x (by omega) P
   have hcg:=fun (n':Nat) (os':Array Obj)=>HC.out d[m]! d[x]! (grow (wr.drewN n') os')
   generalize encP d[m]! = cx at lj hcg
   generalize encP d[x]! = cy at lp hcg
   generalize hcv:cmpE d[m]!.1 d[x]!.1=cv at hcg
   have HLV:Hid (ltP d[m]! d[x]! = decide (cv < 0)):=by rw [← hcv];exact HLT.out
   clear hcv HLT
   have jz:(x:Int) < (n:Int):=by omega
   have jz1:(m:Int) < (n:Int):=by omega
   by_cases hlv:cv < 0
   ·have hld:decide (cv < 0)=true:=by simpa using hlv
    go_wp2_with fail
    go_quiet_grown (first | (go_at_fn g;refine Calls.grown_of (hcg _ _)))
    go_wp2
    go_roundw
    case rel=>exact ⟨p,x,by omega,by have:=HE.out;omega,by omega,rfl,rfl,K1,fun _=>by rw [HLV.out];simpa using hlv,HS.out.grown nq osq⟩
    case measure=>have:=HE.out;simp [intOf];omega
   ·have hld:decide (cv < 0)=false:=by simpa using hlv
    go_wp2_with fail
    go_quiet_grown (first | (go_at_fn g;refine Calls.grown_of (hcg _ _)))
    go_wp2
    go_roundw
    case rel=>exact ⟨x + 1,z,by have:=HE.out;omega,by have:=HE.out;omega,hqb,by go_num,rfl,fun _=>by rw [Nat.add_sub_cancel,HLV.out];simpa using hlv,K2,HS.out.grown nq osq⟩
    case measure=>have:=HE.out;simp [intOf];omega
  ·obtain rfl:z=p:=by omega
   obtain ⟨W1,rfl⟩:∃ x,x=wr:=⟨_,rfl⟩
   go_wp2
   go_loopw [17] (fun i wr=>∃ (k:Nat) (e:Array EvN),z≤k∧k≤m∧i = .int .i64 k∧Hid (Cs w0 blk off n wr e)∧Hid (Rotated k m (m + 1) d e)∧Hid (PermIn a b d e)) (fun i _=>(intOf i).toNat)
   case atStart=>exact ⟨m,d,by omega,Nat.le_refl _,rfl,HS,rotated_none_left d,permIn_refl _ _ _⟩
   case round=>
    obtain ⟨k,e,hqk,hkm,rfl,HS4,HR4,HP4⟩:=hrel
    by_cases hkl:z < k
    ·obtain ⟨k,rfl⟩:∃ i,k=i + 1:=⟨k - 1,by omega⟩
     have hes:=HS4.out.size
     obtain ⟨cX,cY,V1,V2,l1,l2,e1,e2,s1,s2,hc⟩:=HS4.out.exch h0 HKK.out P (k + 1) k (by omega) (by omega)
     have HS5:Hid (Cs w0 blk off n V2 (swp e (k + 1) k)):=hc
     have HR5:Hid (Rotated k m (m + 1) d (swp e (k + 1) k)):=rot_left_step HR4.out (by omega) (by omega)
     have HP5:Hid (PermIn a b d (swp e (k + 1) k)):=permIn_trans _ _ _ _ _ HP4.out (swp_permIn e a b (k + 1) k (by omega) (by omega) (by omega) (by omega) (by omega))
     have z1:(z:Int) < (k:Int) + 1:=by omega
     have jz:(k:Int) + 1 < (n:Int):=by omega
     have jz1:(k:Int) < (n:Int):=by omega
     have p0:(0:Int)≤(k:Int) + 1:=by omega
     have e0:((k:Int) + 1).toNat=k + 1:=by omega
     clear hc
     go_wp2_with fail
     go_big_region_o
     all_goals go_wp2
     go_roundw
     case rel=>exact ⟨k,_,by omega,by omega,by go_num,HS5,HR5,HP5⟩
     case measure=>simp [intOf] <;> omega
    ·have z1:¬ (z:Int) < (k:Int):=by omega
     have z2:decide ((z:Int) < (k:Int))=false:=by simpa using z1
     obtain rfl:k=z:=by omega
     go_wp2
     refine bodyPost_ret (results_none rfl _ _ _) rfl ?_
     refine ⟨rfl,e,HS4.out,?_,HP4.out⟩
     rw [HM.out]
     exact one_left swo_P HS2.out (by omega) (by omega) HR4.out K1.out K2.out
end
end Go.Proofs.YtdkhohlhdiekmaaGreatDoor
