/-  -/
import Derived.Test.YtbleojodidbhiaaGreatDoorBnI
import Derived.Shelf.SlSortCmp.InsertionK
namespace Go.Proofs.YtbleojodidbhiaaGreatDoor
open Go.RowKit
open Go.Sort hiding Below
open Go.Shelf Go.Lib
def encP (p:EvN):List Value:=evC p.1
theorem encP_len (p:EvN):(encP p).length=7:=rfl
theorem encP_one (p:EvN):∀ v ∈ encP p,v.oneCell'=true:=evC_one p.1
structure Cs0 (w0:World) (blk off n:Nat):Prop where
 holds:∃ d0:Array EvN,d0.size=n∧HoldsK encP 7 w0 blk off d0
 lt:blk < w0.heap.size
structure Cs (w0:World) (blk off n:Nat) (W:World) (d:Array EvN):Prop where
 size:d.size=n
 is:∃ m os,W=sortWorldK encP 7 w0 blk off m d os
def CmpG (P:Program) (g:Nat) (cb:Array Value):Prop:=∀ (x y:EvN) (W:World),Calls P g (#[.agg (encP x).toArray,.agg (encP y).toArray] ++ cb) W fun e w'=>e = .returned (.int .i64 (cmpE x.1 y.1))∧∃ q os,w'=grow (W.drewN q) os
theorem cmpG_compare:CmpG Tryz.prog 49 #[]:=fun x y W=>compare_grow x.1 y.1 W
section
variable {w0:World} {blk off n:Nat} {W:World} {d:Array EvN}
theorem Cs.grown (h:Cs w0 blk off n W d) (k:Nat) (os:Array Obj):Cs w0 blk off n (grow (W.drewN k) os) d:=by
 obtain ⟨hs,m,o,rfl⟩:=h
 exact ⟨hs,m + k,o ++ os,sortWorldK_grown_c encP 7 w0 blk off m k d o os⟩
theorem Cs.drew (h:Cs w0 blk off n W d):Cs w0 blk off n W.drew d:=by
 obtain ⟨hs,m,o,rfl⟩:=h
 exact ⟨hs,m + 1,o,rfl⟩
theorem Cs.holds (h0:Cs0 w0 blk off n) (h:Cs w0 blk off n W d):HoldsK encP 7 W blk off d:=by
 obtain ⟨hs,m,o,rfl⟩:=h
 obtain ⟨⟨d0,e0,hH⟩,hl⟩:=h0
 exact holdsK_sortWorldK_c encP 7 w0 blk off d0 d m o hH hl (by rw [hs,e0])
theorem Cs.load (h0:Cs0 w0 blk off n) (h:Cs w0 blk off n W d) {k:Nat} (hk:k=7) (i:Nat) (hi:i < n) (P:Program):Sem.run P (loadCellsFrom ⟨blk,off + i * k,none⟩ 0 k #[]) W = .ok (encP d[i]!).toArray W:=by
 subst hk
 exact run_loadCellsFrom_list P _ _ _ 7 (encP_len _) (HoldsK.cells (h.holds h0) encP_len (by have:=h.size;omega))
theorem Cs.cell (h0:Cs0 w0 blk off n) (h:Cs w0 blk off n W d) (i j:Nat) (hi:i < n) (v:Value) (hv:(evC d[i]!.1)[j]?=some v):W.cell? ⟨blk,off + i * 7 + j,none⟩=some v:=by
 have:=HoldsK.cells (h.holds h0) encP_len (i:=i) (by have:=h.size;omega) j v hv
 rw [show (⟨blk,off + i * 7,none⟩:Addr).add j=⟨blk,off + i * 7 + j,none⟩ by unfold Addr.add;split <;> simp_all] at this
 exact this
theorem Cs.exch (h0:Cs0 w0 blk off n) (h:Cs w0 blk off n W d) {k:Nat} (hk:k=7) (P:Program) (i j:Nat) (hi:i < n) (hj:j < n) :
  ∃ (cX cY:List Value) (W1 W2:World),cX.length=k∧cY.length=k
   ∧ Sem.run P (loadCellsFrom ⟨blk,off + i * k,none⟩ 0 k #[]) W.drew = .ok cX.toArray W.drew
   ∧ Sem.run P (loadCellsFrom ⟨blk,off + j * k,none⟩ 0 k #[]) W.drew = .ok cY.toArray W.drew
   ∧ Sem.run P (storeCells ⟨blk,off + i * k,none⟩ cY 0) W.drew = .ok () W1
   ∧ Sem.run P (storeCells ⟨blk,off + j * k,none⟩ cX 0) W1 = .ok () W2
   ∧ Cs w0 blk off n W2 (swp d i j):=by
 subst hk
 have hs:=h.size
 have hd:=h.drew
 have hH:=hd.holds h0
 have bnd:∀ x,x < d.size→x * 7 + 7≤d.size * 7:=fun x hx=>by omega
 refine ⟨encP d[i]!,encP d[j]!,_,_,encP_len _,encP_len _,hd.load h0 rfl i hi _,hd.load h0 rfl j hj _,stores_of_holds _ hH (i * 7) _ (by rw [encP_len,size_flatK];exact bnd i (by omega)) (encP_one _),
  stores_of_holds _ (holds_setCells_c hH (i * 7) _ (by rw [encP_len,size_flatK];exact bnd i (by omega))) (j * 7) _ (by rw [encP_len,size_setMany,size_flatK];exact bnd j (by omega)) (encP_one _),?_⟩
 obtain ⟨_,m,o,rfl⟩:=h
 refine ⟨by rw [size_swp];exact hs,m + 1,o,?_⟩
 exact sortWorldK_swp_c encP 7 w0 blk off encP_len m d o h0.lt i j (by omega) (by omega)
end
theorem cmp_ltP {x y:EvN} (h:y.2 < x.2):ltP x y=decide (cmpE x.1 y.1 < 0):=by rw [less_P h];rfl
structure CsP (P:Program) (k:Nat):Prop where
 mixed:P.follows .mixedOrders=true
 fS:P.funcs[292]?=some Tryz.f292
 eS:∀ args w,(callFunc 292 args).run P w = .ok (.enter 292 args) w
 fI:P.funcs[148]?=some Tryz.f148
 eI:∀ args w,(callFunc 148 args).run P w = .ok (.enter 148 args) w
 fR:P.funcs[289]?=some Tryz.f289
 eR:∀ args w,(callFunc 289 args).run P w = .ok (.enter 289 args) w
 fM:P.funcs[283]?=some Tryz.f283
 eM:∀ args w,(callFunc 283 args).run P w = .ok (.enter 283 args) w
 fT:P.funcs[263]?=some Tryz.f263
 eT:∀ args w,(callFunc 263 args).run P w = .ok (.enter 263 args) w
 t0:P.underlying 0=some (TypeDesc.tuple #[])
 a0:∀ w,(isAgg 0).run P w = .ok false w
 z0:∀ w,(Go.sizeOf 0).run P w = .ok 1 w
 v0:∀ w,(zeroValue 0).run P w = .ok (Value.tuple #[]) w
 tI:P.underlying 3=some (TypeDesc.int IntKind.i64)
 aI:∀ w,(isAgg 3).run P w = .ok false w
 zI:∀ w,(Go.sizeOf 3).run P w = .ok 1 w
 vI:∀ w,(zeroValue 3).run P w = .ok (Value.int IntKind.i64 0) w
 tB:P.underlying 4=some (TypeDesc.bool)
 aB:∀ w,(isAgg 4).run P w = .ok false w
 zB:∀ w,(Go.sizeOf 4).run P w = .ok 1 w
 vB:∀ w,(zeroValue 4).run P w = .ok (Value.bool false) w
 tU:P.underlying 73=some (TypeDesc.int IntKind.u64)
 aU:∀ w,(isAgg 73).run P w = .ok false w
 zU:∀ w,(Go.sizeOf 73).run P w = .ok 1 w
 vU:∀ w,(zeroValue 73).run P w = .ok (Value.int IntKind.u64 0) w
 tL:P.underlying 53=some (TypeDesc.slice 93)
 aL:∀ w,(isAgg 53).run P w = .ok false w
 zL:∀ w,(Go.sizeOf 53).run P w = .ok 1 w
 vL:∀ w,(zeroValue 53).run P w = .ok (Value.slice none 0 0) w
 tF:P.underlying 98=some (TypeDesc.func #[93,93] #[3] false)
 aF:∀ w,(isAgg 98).run P w = .ok false w
 zF:∀ w,(Go.sizeOf 98).run P w = .ok 1 w
 vF:∀ w,(zeroValue 98).run P w = .ok (Value.nilFunc) w
 aE:∀ w,(isAgg 93).run P w = .ok true w
 zE:∀ w,(Go.sizeOf 93).run P w = .ok k w
theorem csP:CsP Tryz.prog 7 where
 mixed:=by kernel_rfl
 fS:=Tryz.func292
 eS:=enters_of Tryz.func292 (by kernel_rfl) rfl
 fI:=Tryz.func148
 eI:=enters_of Tryz.func148 (by kernel_rfl) rfl
 fR:=Tryz.func289
 eR:=enters_of Tryz.func289 (by kernel_rfl) rfl
 fM:=Tryz.func283
 eM:=enters_of Tryz.func283 (by kernel_rfl) rfl
 fT:=Tryz.func263
 eT:=enters_of Tryz.func263 (by kernel_rfl) rfl
 t0:=by kernel_rfl
 a0:=fun _=>by kernel_rfl
 z0:=fun _=>by kernel_rfl
 v0:=fun _=>by kernel_rfl
 tI:=by kernel_rfl
 aI:=fun _=>by kernel_rfl
 zI:=fun _=>by kernel_rfl
 vI:=fun _=>by kernel_rfl
 tB:=by kernel_rfl
 aB:=fun _=>by kernel_rfl
 zB:=fun _=>by kernel_rfl
 vB:=fun _=>by kernel_rfl
 tU:=by kernel_rfl
 aU:=fun _=>by kernel_rfl
 zU:=fun _=>by kernel_rfl
 vU:=fun _=>by kernel_rfl
 tL:=by kernel_rfl
 aL:=fun _=>by kernel_rfl
 zL:=fun _=>by kernel_rfl
 vL:=fun _=>by kernel_rfl
 tF:=by kernel_rfl
 aF:=fun _=>by kernel_rfl
 zF:=fun _=>by kernel_rfl
 vF:=fun _=>by kernel_rfl
 aE:=fun _=>by kernel_rfl
 zE:=fun _=>by kernel_rfl
end Go.Proofs.YtbleojodidbhiaaGreatDoor
namespace Go.Proofs.YtbleojodidbhiaaGreatDoor
open Go.RowKit
open Go.Sort hiding Below
open Go.Shelf Go.Lib
section
variable {P:Program} {kk:Nat} {w0:World} {blk off n:Nat} {g:Nat} {cb:Array Value}
set_option maxRecDepth 20000 in
set_option maxHeartbeats 4000000 in
theorem cs_swapRange (L:CsP P kk) (hkk:kk=7) (h0:Cs0 w0 blk off n) (d:Array EvN) (w:World) (h:Cs w0 blk off n w d) (cap a b m:Nat) (h1:a + m≤b) (h2:b + m≤n) (hn:n≤1000000) :
  Calls P 292 #[.slice (some ⟨blk,off,none⟩) n cap,.int .i64 a,.int .i64 b,.int .i64 m,.func (.func g) #[] cb] w fun e w'=>e = .returned (.tuple #[])∧∃ d',Cs w0 blk off n w' d'∧Swapped a b m d d'∧PermIn a (b + m) d d':=by
 have hsz:=h.size
 have mixed:=L.mixed;have t0:=L.t0;have a0:=L.a0;have z0:=L.z0;have v0:=L.v0;have tI:=L.tI;have aI:=L.aI;have zI:=L.zI;have vI:=L.vI;have tB:=L.tB;have aB:=L.aB;have zB:=L.zB;have vB:=L.vB;have tU:=L.tU;have aU:=L.aU;have zU:=L.zU;have vU:=L.vU;have tL:=L.tL;have aL:=L.aL;have zL:=L.zL;have vL:=L.vL;have tF:=L.tF;have aF:=L.aF;have zF:=L.zF;have vF:=L.vF;have aE:=L.aE;have zE:=L.zE;have uL:=run_underlying L.tL
 have H:Hid (Cs w0 blk off n w d):=h
 clear h
 have HKK:Hid (kk=7):=hkk
 clear hkk
 go_enter L.fS,Tryz.ntmps292
 go_wp2
 go_loopw [10] (fun i wr=>∃ (k:Nat) (e:Array EvN),k≤m∧i = .int .i64 k∧Hid (Cs w0 blk off n wr e)∧Hid (Swapped a b k d e)∧Hid (PermIn a (b + m) d e)) (fun i _=>m - (intOf i).toNat)
 case atStart=>exact ⟨0,d,Nat.zero_le _,rfl,H,swapped_zero a b d,permIn_refl _ _ _⟩
 case round=>
  obtain ⟨k,e,hk,rfl,HS,HW,HP⟩:=hrel
  by_cases hlt:k < m
  ·have hes:=HS.out.size
   obtain ⟨cX,cY,W1,W2,l1,l2,e1,e2,s1,s2,hc⟩:=HS.out.exch h0 HKK.out P (a + k) (b + k) (by omega) (by omega)
   have HC:Hid (Cs w0 blk off n W2 (swp e (a + k) (b + k))):=hc
   have HW':Hid (Swapped a b (k + 1) d (swp e (a + k) (b + k))):=swapped_step HW.out (by omega) (by omega) (by omega)
   have HP':Hid (PermIn a (b + m) d (swp e (a + k) (b + k))):=permIn_trans _ _ _ _ _ HP.out (swp_permIn e a (b + m) (a + k) (b + k) (by omega) (by omega) (by omega) (by omega) (by omega))
   clear hc
   have za:((a:Int) + (k:Int)).toNat=a + k:=by omega
   have zb:((b:Int) + (k:Int)).toNat=b + k:=by omega
   have pa:(0:Int)≤(a:Int) + (k:Int):=by omega
   have pb:(0:Int)≤(b:Int) + (k:Int):=by omega
   have qa:(a:Int) + (k:Int) < (n:Int):=by omega
   have qb:(b:Int) + (k:Int) < (n:Int):=by omega
   go_wp2_with fail
   go_big_region_o
   all_goals go_wp2
   go_roundw
   case rel=>exact ⟨k + 1,_,by omega,by go_num,HC,HW',HP'⟩
   case measure=>simp [intOf];omega
  ·obtain rfl:k=m:=by omega
   go_wp2
   go_end0
   exact ⟨rfl,e,HS.out,HW.out,HP.out⟩
set_option maxRecDepth 20000 in
set_option maxHeartbeats 4000000 in
theorem cs_insertion (L:CsP P kk) (hkk:kk=7) (h0:Cs0 w0 blk off n) (eg:∀ args w,(callFunc g args).run P w = .ok (.enter g args) w) (hcmp:CmpG P g cb) (d:Array EvN) (w:World) (h:Cs w0 blk off n w d) (cap a b:Nat) (h1:a≤b) (h2:b≤n) (hn:n≤1000000) (hq:∀ s t,a≤s→s < t→t < b→d[s]!.2 < d[t]!.2) :
  Calls P 148 #[.slice (some ⟨blk,off,none⟩) n cap,.int .i64 a,.int .i64 b,.func (.func g) #[] cb] w fun e w'=>e = .returned (.tuple #[])∧∃ d',Cs w0 blk off n w' d'∧SortedIn ltP a b d'∧PermIn a b d d':=by
 have hsz:=h.size
 have mixed:=L.mixed;have t0:=L.t0;have a0:=L.a0;have z0:=L.z0;have v0:=L.v0;have tI:=L.tI;have aI:=L.aI;have zI:=L.zI;have vI:=L.vI;have tB:=L.tB;have aB:=L.aB;have zB:=L.zB;have vB:=L.vB;have tU:=L.tU;have aU:=L.aU;have zU:=L.zU;have vU:=L.vU;have tL:=L.tL;have aL:=L.aL;have zL:=L.zL;have vL:=L.vL;have tF:=L.tF;have aF:=L.aF;have zF:=L.zF;have vF:=L.vF;have aE:=L.aE;have zE:=L.zE;have uL:=run_underlying L.tL
 have H:Hid (Cs w0 blk off n w d):=h
 have HC:Hid (CmpG P g cb):=hcmp
 have HQ:Hid (∀ s t,a≤s→s < t→t < b→d[s]!.2 < d[t]!.2):=hq
 clear h hcmp hq
 have HKK:Hid (kk=7):=hkk
 clear hkk
 go_enter L.fI,Tryz.ntmps148
 go_wp2
 go_loopw [8] (fun i wr=>∃ (k:Nat) (e:Array EvN),a + 1≤k∧k≤n + 1∧i = .int .i64 k∧Hid (Cs w0 blk off n wr e)∧Hid (insOuter ltP a b k e=insertionSort ltP d a b)∧Hid (Later (fun p r:EvN=>r.2 < p.2) a b k e)) (fun i _=>n + 1 - (intOf i).toNat)
 case atStart=>exact ⟨a + 1,d,Nat.le_refl _,by omega,by go_num,H,rfl,fun x y h1 h2 h3 _=>HQ.out x y h1 h2 h3⟩
 case round=>
  obtain ⟨k,e,hk1,hk2,rfl,HS,HI,HQ1⟩:=hrel
  by_cases hlt:k < b
  ·have HI2:Hid (insOuter ltP a b (k + 1) (insInner ltP a k e)=insertionSort ltP d a b):=by
    have:=HI.out
    rw [insOuter,if_pos hlt] at this
    exact this
   obtain ⟨W1,rfl⟩:∃ x,x=wr:=⟨_,rfl⟩
   go_wp2
   go_loopw [9] (fun i wr=>∃ (j:Nat) (e2:Array EvN),j≤k∧a≤j∧i = .int .i64 j∧Hid (Cs w0 blk off n wr e2)∧Hid (insInner ltP a j e2=insInner ltP a k e)∧Hid (Into (fun p r:EvN=>r.2 < p.2) a b (k + 1) j e2)) (fun i _=>(intOf i).toNat)
   case atStart=>exact ⟨k,e,Nat.le_refl _,by omega,rfl,HS,rfl,⟨fun x h1 h2=>HQ1.out x k h1 h2 hlt (Nat.le_refl _),fun x y h1 h2 h3 h4=>HQ1.out x y h1 h2 h3 (by omega)⟩⟩
   case round=>
    obtain ⟨j,e2,hj,haj,rfl,HS2,HJ,HQ2⟩:=hrel
    by_cases hja:a < j
    ·obtain ⟨i,rfl⟩:∃ i,j=i + 1:=⟨j - 1,by omega⟩
     have HLT:Hid (ltP e2[i + 1]! e2[i]! = decide (cmpE e2[i + 1]!.1 e2[i]!.1 < 0)):=cmp_ltP (HQ2.out.1 i (by omega) (Nat.lt_succ_self i))
     have lj:=fun (n':Nat) (os':Array Obj)=>(HS2.out.grown n' os').load h0 HKK.out (i + 1) (by omega) P
     have lp:=fun (n':Nat) (os':Array Obj)=>(HS2.out.grown n' os').load h0 HKK.out i (by omega) P
     have hcg:=fun (n':Nat) (os':Array Obj)=>HC.out e2[i + 1]! e2[i]! (grow (wr.drewN n') os')
     have hz:(a:Int) < (i:Int) + 1:=by omega
     have jz:(i:Int) + 1 < (n:Int):=by omega
     have jz1:(i:Int) < (n:Int):=by omega
     have p0:(0:Int)≤(i:Int) + 1:=by omega
     have e0:((i:Int) + 1).toNat=i + 1:=by omega
     have hwp:IntKind.i64.wrap (i:Int)=(i:Int):=by rw [IntKind.wrap_i64];omega
     have HJ2:Hid (insInner ltP a (i + 1) e2=if (i + 1 > a && ltP e2[i + 1]! e2[i]!)=true then insInner ltP a i (swp e2 (i + 1) i) else e2):=rfl
     generalize encP e2[i + 1]! = cx at lj hcg
     generalize encP e2[i]! = cy at lp hcg
     generalize hcv:cmpE e2[i + 1]!.1 e2[i]!.1=cv at hcg
     have HCV:Hid (cmpE e2[i + 1]!.1 e2[i]!.1=cv):=hcv
     clear hcv
     by_cases hlv:cv < 0
     ·go_wp2_with fail
      go_quiet_grown (first | (go_at_fn g;refine Calls.grown_of (hcg _ _)))
      go_wp2_with fail
      have HS3:Hid (Cs w0 blk off n (grow (wr.drewN nq) osq) e2):=HS2.out.grown nq osq
      clear lj lp hcg
      generalize grow (wr.drewN nq) osq=wq2 at HS3 ⊢
      obtain ⟨cX,cY,V1,V2,l1,l2,e1,e3,s1,s2,hc⟩:=HS3.out.exch h0 HKK.out P (i + 1) i (by omega) (by omega)
      have HS4:Hid (Cs w0 blk off n V2 (swp e2 (i + 1) i)):=hc
      clear hc
      have HJ4:Hid (insInner ltP a i (swp e2 (i + 1) i)=insInner ltP a k e):=by
       have e1:=HJ2.out
       rw [HLT.out,HCV.out,if_pos (by simp;omega)] at e1
       exact e1.symm.trans HJ.out
      have HQ4:Hid (Into (fun p r:EvN=>r.2 < p.2) a b (k + 1) i (swp e2 (i + 1) i)):=into_swap HQ2.out (by have:=HS2.out.size;omega) (by omega) (by omega)
      go_big_region_o
      all_goals go_wp2
      go_roundw
      case rel=>exact ⟨i,_,by omega,by omega,by go_num,HS4,HJ4,HQ4⟩
      case measure=>simp [intOf] <;> omega
     ·have HI3:Hid (insOuter ltP a b (k + 1) e2=insertionSort ltP d a b):=by
       have e1:=HJ2.out
       rw [HLT.out,HCV.out,if_neg (by simp;omega)] at e1
       have:=HI2.out
       rw [← HJ.out,e1] at this
       exact this
      go_wp2_with fail
      go_quiet_grown (first | (go_at_fn g;refine Calls.grown_of (hcg _ _)))
      go_wp2
      go_roundw
      case rel=>exact ⟨k + 1,e2,by omega,by omega,by go_num,HS2.out.grown nq osq,HI3,HQ2.out.2⟩
      case measure=>simp [intOf];omega
    ·have hz:¬ (a:Int) < (j:Int):=by omega
     have hzd:decide ((a:Int) < (j:Int))=false:=by simpa using hz
     have hzd2:decide ((j:Int) > (a:Int))=false:=by simpa using hz
     have HI3:Hid (insOuter ltP a b (k + 1) e2=insertionSort ltP d a b):=by
      have e1:insInner ltP a j e2=e2:=by
       cases j with
       | zero=>rfl
       | succ i=>rw [insInner,if_neg (by simp;omega)]
      have:=HI2.out
      rw [← HJ.out,e1] at this
      exact this
     have HD:Hid (Cs w0 blk off n wr.drew e2):=HS2.out.drew
     go_wp2_with fail
     go_big_region_o
     all_goals go_wp2
     go_roundw
     case rel=>exact ⟨k + 1,e2,by omega,by omega,by go_num,HD,HI3,HQ2.out.2⟩
     case measure=>simp [intOf];omega
  ·go_wp2
   go_end0
   have hfin:e=insertionSort ltP d a b:=by
    have:=HI.out
    rw [insOuter,if_neg hlt] at this
    exact this
   have hsp:=insertionSort_holds (lt:=ltP) swo_P d a b h1 (by omega)
   exact ⟨rfl,e,HS.out,by rw [hfin];exact hsp.2,by rw [hfin];exact hsp.1⟩
set_option maxRecDepth 20000 in
set_option maxHeartbeats 4000000 in
theorem cs_rotate (L:CsP P kk) (hkk:kk=7) (h0:Cs0 w0 blk off n) (d:Array EvN) (w:World) (h:Cs w0 blk off n w d) (cap a m b:Nat) (h1:a < m) (h2:m < b) (h3:b≤n) (hn:n≤1000000) :
  Calls P 289 #[.slice (some ⟨blk,off,none⟩) n cap,.int .i64 a,.int .i64 m,.int .i64 b,.func (.func g) #[] cb] w fun e w'=>e = .returned (.tuple #[])∧∃ d',Cs w0 blk off n w' d'∧Rotated a m b d d'∧PermIn a b d d':=by
 have hsz:=h.size
 have mixed:=L.mixed;have t0:=L.t0;have a0:=L.a0;have z0:=L.z0;have v0:=L.v0;have tI:=L.tI;have aI:=L.aI;have zI:=L.zI;have vI:=L.vI;have tB:=L.tB;have aB:=L.aB;have zB:=L.zB;have vB:=L.vB;have tU:=L.tU;have aU:=L.aU;have zU:=L.zU;have vU:=L.vU;have tL:=L.tL;have aL:=L.aL;have zL:=L.zL;have vL:=L.vL;have tF:=L.tF;have aF:=L.aF;have zF:=L.zF;have vF:=L.vF;have aE:=L.aE;have zE:=L.zE;have uL:=run_underlying L.tL
 obtain ⟨R,hR⟩:∃ R:Nat→EvN,R=fun t=>if a≤t∧t < a + (b - m) then d[t + (m - a)]! else if a + (b - m)≤t∧t < b then d[t - (b - m)]! else d[t]!:=⟨_,rfl⟩
 have HR:Hid (R=_):=hR
 have HT0:Hid (Turns m (m - a) (b - m) R d):=by rw [hR];exact turns_start d (by omega) (by omega)
 clear hR
 have hsw:=fun W e (x y k:Nat) (hs:Cs w0 blk off n W e) (hx:x + k≤y) (hy:y + k≤n)=>cs_swapRange (g:=g) (cb:=cb) L hkk h0 e W hs cap x y k hx hy hn
 have HS0:Hid (Cs w0 blk off n w d):=h
 clear h
 have za:(a:Int) < (m:Int):=by omega
 have zm:(m:Int) < (b:Int):=by omega
 have zb:(b:Int)≤1000000:=by omega
 have eS:=L.eS
 have HKK:Hid (kk=7):=hkk
 clear hkk
 go_enter L.fR,Tryz.ntmps289
 go_wp2
 go_loopw [10,11] (fun i j wr=>∃ (p z:Nat) (e:Array EvN),0 < p∧0 < z∧p≤m - a∧z≤b - m∧i = .int .i64 p∧j = .int .i64 z∧Hid (Cs w0 blk off n wr e)∧Hid (Turns m p z R e)∧Hid (PermIn a b d e)) (fun i j _=>(intOf i).toNat + (intOf j).toNat)
 case atStart=>exact ⟨m - a,b - m,d,by omega,by omega,Nat.le_refl _,Nat.le_refl _,by rw [Int.ofNat_sub (by omega)],by rw [Int.ofNat_sub (by omega)],HS0,HT0,permIn_refl _ _ _⟩
 case round=>
  obtain ⟨p,z,e,hp0,hq0,hpm,hqb,rfl,rfl,HS,HT,HP⟩:=hrel
  have e1:Hid (((m - p:Nat):Int)=(m:Int) - p):=Int.ofNat_sub (by omega)
  rcases Nat.lt_trichotomy p z with hlt | heq | hgt
  ·have z1:(p:Int) < (z:Int):=by omega
   have hc:=hsw wr e (m - p) (m + z - p) p HS.out (by omega) (by omega)
   have e2:((m + z - p:Nat):Int)=(m:Int) + z - p:=by rw [Int.ofNat_sub (by omega),Int.natCast_add]
   rw [e1.out,e2] at hc
   clear e2
   go_wp2_with fail
   refine hc.mono ?_
   rintro e3 w2 ⟨rfl,d2,hs2,hw2,hp2⟩
   have HS2:Hid (Cs w0 blk off n w2 d2):=hs2
   have HT2:Hid (Turns m p (z - p) R d2):=turns_right HT.out (by omega) hlt hw2
   have HP2:Hid (PermIn a b d d2):=permIn_trans _ _ _ _ _ HP.out (permIn_mono _ _ _ _ _ _ (by omega) (by omega) (by have:=HS.out.size;omega) hp2)
   clear hs2 hw2 hp2 hc
   go_wp2
   go_roundw
   case rel=>exact ⟨p,z - p,d2,by omega,by omega,by omega,by omega,rfl,by rw [Int.ofNat_sub (by omega)],HS2,HT2,HP2⟩
   case measure=>simp [intOf];omega
  ·subst heq
   have hc:=hsw wr e (m - p) m p HS.out (by omega) (by omega)
   rw [e1.out] at hc
   go_wp2_with fail
   refine hc.mono ?_
   rintro e3 w2 ⟨rfl,d2,hs2,hw2,hp2⟩
   go_wp2
   go_end0
   refine ⟨rfl,d2,hs2,?_,permIn_trans _ _ _ _ _ HP.out (permIn_mono _ _ _ _ _ _ (by omega) (by omega) (by have:=HS.out.size;omega) hp2)⟩
   have:=turns_end HT.out (by omega) hw2
   rw [HR.out] at this
   exact this
  ·have z1:(z:Int) < (p:Int):=by omega
   have hc:=hsw wr e (m - p) m z HS.out (by omega) (by omega)
   rw [e1.out] at hc
   go_wp2_with fail
   refine hc.mono ?_
   rintro e3 w2 ⟨rfl,d2,hs2,hw2,hp2⟩
   have HS2:Hid (Cs w0 blk off n w2 d2):=hs2
   have HT2:Hid (Turns m (p - z) z R d2):=turns_left HT.out (by omega) hgt hw2
   have HP2:Hid (PermIn a b d d2):=permIn_trans _ _ _ _ _ HP.out (permIn_mono _ _ _ _ _ _ (by omega) (by omega) (by have:=HS.out.size;omega) hp2)
   clear hs2 hw2 hp2 hc
   go_wp2
   go_roundw
   case rel=>exact ⟨p - z,z,d2,by omega,by omega,by omega,by omega,by rw [Int.ofNat_sub (by omega)],rfl,HS2,HT2,HP2⟩
   case measure=>simp [intOf];omega
end
end Go.Proofs.YtbleojodidbhiaaGreatDoor
namespace Go.Proofs.YtbleojodidbhiaaGreatDoor
open Go.RowKit
open Go.Sort hiding Below
open Go.Shelf Go.Lib
def qP (p r:EvN):Prop:=r.2 < p.2
def MergesC (w0:World) (blk off n a b:Nat) (d:Array EvN) (r:Ending) (w':World):Prop:=r = .returned (.tuple #[])∧∃ d',Cs w0 blk off n w' d'∧SortedIn ltP a b d'∧PermIn a b d d'
section
variable {P:Program} {kk:Nat} {w0:World} {blk off n:Nat} {g:Nat} {cb:Array Value}
set_option maxRecDepth 20000 in
set_option maxHeartbeats 4000000 in
theorem cs_merge_one_right (L:CsP P kk) (hkk:kk=7) (h0:Cs0 w0 blk off n) (eg:∀ args w,(callFunc g args).run P w = .ok (.enter g args) w) (hcmp:CmpG P g cb) (cap:Nat) (d:Array EvN) (w:World) (h:Cs w0 blk off n w d) (a m b:Nat) (hm:m=a + 1) (h2:m < b) (h3:b≤n) (hN:n≤1000000) (hs2:SortedIn ltP (a + 1) b d) (hap:Ap qP a m b d) :
  Calls P 283 #[.slice (some ⟨blk,off,none⟩) n cap,.int .i64 a,.int .i64 m,.int .i64 b,.func (.func g) #[] cb] w (MergesC w0 blk off n a b d):=by
 have hsz:=h.size
 have mixed:=L.mixed;have t0:=L.t0;have a0:=L.a0;have z0:=L.z0;have v0:=L.v0;have tI:=L.tI;have aI:=L.aI;have zI:=L.zI;have vI:=L.vI;have tB:=L.tB;have aB:=L.aB;have zB:=L.zB;have vB:=L.vB;have tU:=L.tU;have aU:=L.aU;have zU:=L.zU;have vU:=L.vU;have tL:=L.tL;have aL:=L.aL;have zL:=L.zL;have vL:=L.vL;have tF:=L.tF;have aF:=L.aF;have zF:=L.zF;have vF:=L.vF;have aE:=L.aE;have zE:=L.zE;have uL:=run_underlying L.tL
 have HS0:Hid (Cs w0 blk off n w d):=h
 have HS2:Hid (SortedIn ltP (a + 1) b d):=hs2
 have HC:Hid (CmpG P g cb):=hcmp
 have HAP:Hid (Ap qP a m b d):=hap
 clear hs2 hap hcmp h
 have HKK:Hid (kk=7):=hkk
 clear hkk
 go_enter L.fM,Tryz.ntmps283
 have z0:(m:Int) - (a:Int)=1:=by omega
 have HM:Hid (m=a + 1):=hm
 clear hm
 go_wp2
 go_loopw [10,11] (fun i j wr=>∃ (p z:Nat),a + 1≤p∧p≤z∧z≤b∧i = .int .i64 p∧j = .int .i64 z∧Hid (a + 1 < p→ltP d[p - 1]! d[a]! = true)∧Hid (z < b→ltP d[z]! d[a]! = false)∧Hid (Cs w0 blk off n wr d)) (fun i j _=>(intOf j).toNat - (intOf i).toNat)
 case atStart=>exact ⟨m,b,by omega,by omega,Nat.le_refl _,rfl,rfl,fun h=>absurd h (by omega),fun h=>absurd h (Nat.lt_irrefl _),HS0⟩
 case round=>
  obtain ⟨p,z,hp,hpq,hqb,rfl,rfl,K1,K2,HS⟩:=hrel
  by_cases hlt:p < z
  ·obtain ⟨x,hx⟩:∃ x,x=(p + z) / 2:=⟨_,rfl⟩
   have ex:((p:Int) + (z:Int)) / 2=(x:Int):=by omega
   have HE:Hid (x=(p + z) / 2):=hx
   have hxa:a < x:=by omega
   have hxn:x < n:=by omega
   have HLT:Hid (ltP d[x]! d[a]! = decide (cmpE d[x]!.1 d[a]!.1 < 0)):=cmp_ltP (HAP.out a x (Nat.le_refl _) (by omega) (by omega) (by omega))
   clear hx
   have lj:=fun (n':Nat) (os':Array Obj)=>(HS.out.grown n' os').load h0 HKK.out x hxn P
   have lp:=fun (n':Nat) (os':Array Obj)=>(HS.out.grown n' os').load h0 HKK.out a (by omega) P
   have hcg:=fun (n':Nat) (os':Array Obj)=>HC.out d[x]! d[a]! (grow (wr.drewN n') os')
   generalize encP d[x]! = cx at lj hcg
   generalize encP d[a]! = cy at lp hcg
   generalize hcv:cmpE d[x]!.1 d[a]!.1=cv at hcg
   have HLV:Hid (ltP d[x]! d[a]! = decide (cv < 0)):=by rw [← hcv];exact HLT.out
   clear hcv HLT
   have jz:(x:Int) < (n:Int):=by omega
   have jz1:(a:Int) < (n:Int):=by omega
   by_cases hlv:cv < 0
   ·go_wp2_with fail
    go_quiet_grown (first | (go_at_fn g;refine Calls.grown_of (hcg _ _)))
    go_wp2
    go_roundw
    case rel=>exact ⟨x + 1,z,by omega,by have:=HE.out;omega,hqb,by go_num,rfl,fun _=>by rw [Nat.add_sub_cancel,HLV.out];simpa using hlv,K2,HS.out.grown nq osq⟩
    case measure=>have:=HE.out;simp [intOf];omega
   ·go_wp2_with fail
    go_quiet_grown (first | (go_at_fn g;refine Calls.grown_of (hcg _ _)))
    go_wp2
    go_roundw
    case rel=>exact ⟨p,x,by omega,by have:=HE.out;omega,by have:=HE.out;omega,rfl,rfl,K1,fun _=>by rw [HLV.out];simpa using hlv,HS.out.grown nq osq⟩
    case measure=>have:=HE.out;simp [intOf];omega
  ·obtain rfl:z=p:=by omega
   obtain ⟨W1,rfl⟩:∃ x,x=wr:=⟨_,rfl⟩
   go_wp2
   go_loopw [13] (fun i wr=>∃ (k:Nat) (e:Array EvN),a≤k∧k + 1≤z∧i = .int .i64 k∧Hid (Cs w0 blk off n wr e)∧Hid (Rotated a (a + 1) (k + 1) d e)∧Hid (PermIn a b d e)) (fun i _=>n - (intOf i).toNat)
   case atStart=>exact ⟨a,d,Nat.le_refl _,by omega,rfl,HS,rotated_none_right d,permIn_refl _ _ _⟩
   case round=>
    obtain ⟨k,e,hak,hkq,rfl,HS4,HR4,HP4⟩:=hrel
    by_cases hkl:k + 1 < z
    ·have hes:=HS4.out.size
     obtain ⟨cX,cY,V1,V2,l1,l2,e1,e2,s1,s2,hc⟩:=HS4.out.exch h0 HKK.out P k (k + 1) (by omega) (by omega)
     have HS5:Hid (Cs w0 blk off n V2 (swp e k (k + 1))):=hc
     have HR5:Hid (Rotated a (a + 1) (k + 2) d (swp e k (k + 1))):=rot_right_step HR4.out hak (by omega)
     have HP5:Hid (PermIn a b d (swp e k (k + 1))):=permIn_trans _ _ _ _ _ HP4.out (swp_permIn e a b k (k + 1) (by omega) (by omega) (by omega) (by omega) (by omega))
     have z1:(k:Int) < (z:Int) - 1:=by omega
     have jz:(k:Int) + 1 < (n:Int):=by omega
     have jz1:(k:Int) < (n:Int):=by omega
     have p0:(0:Int)≤(k:Int) + 1:=by omega
     have e0:((k:Int) + 1).toNat=k + 1:=by omega
     clear hc
     go_wp2_with fail
     go_big_region_o
     all_goals go_wp2
     go_roundw
     case rel=>exact ⟨k + 1,_,by omega,by omega,by go_num,HS5,HR5,HP5⟩
     case measure=>simp [intOf];omega
    ·have z1:¬ (k:Int) < (z:Int) - 1:=by omega
     have z2:decide ((k:Int) < (z:Int) - 1)=false:=by simpa using z1
     obtain rfl:z=k + 1:=by omega
     go_wp2
     refine bodyPost_ret (results_none rfl _ _ _) rfl ?_
     exact ⟨rfl,e,HS4.out,one_right swo_P HS2.out (by omega) (by omega) HR4.out K1.out K2.out,HP4.out⟩
set_option maxRecDepth 20000 in
set_option maxHeartbeats 4000000 in
theorem cs_merge_one_left (L:CsP P kk) (hkk:kk=7) (h0:Cs0 w0 blk off n) (eg:∀ args w,(callFunc g args).run P w = .ok (.enter g args) w) (hcmp:CmpG P g cb) (cap:Nat) (d:Array EvN) (w:World) (h:Cs w0 blk off n w d) (a m b:Nat) (hm:b=m + 1) (h2:a + 1 < m) (h3:b≤n) (hN:n≤1000000) (hs2:SortedIn ltP a m d) (hap:Ap qP a m b d) :
  Calls P 283 #[.slice (some ⟨blk,off,none⟩) n cap,.int .i64 a,.int .i64 m,.int .i64 b,.func (.func g) #[] cb] w (MergesC w0 blk off n a b d):=by
 have hsz:=h.size
 have mixed:=L.mixed;have t0:=L.t0;have a0:=L.a0;have z0:=L.z0;have v0:=L.v0;have tI:=L.tI;have aI:=L.aI;have zI:=L.zI;have vI:=L.vI;have tB:=L.tB;have aB:=L.aB;have zB:=L.zB;have vB:=L.vB;have tU:=L.tU;have aU:=L.aU;have zU:=L.zU;have vU:=L.vU;have tL:=L.tL;have aL:=L.aL;have zL:=L.zL;have vL:=L.vL;have tF:=L.tF;have aF:=L.aF;have zF:=L.zF;have vF:=L.vF;have aE:=L.aE;have zE:=L.zE;have uL:=run_underlying L.tL
 have HS0:Hid (Cs w0 blk off n w d):=h
 have HS2:Hid (SortedIn ltP a m d):=hs2
 have HC:Hid (CmpG P g cb):=hcmp
 have HAP:Hid (Ap qP a m b d):=hap
 clear hs2 hap hcmp h
 have HKK:Hid (kk=7):=hkk
 clear hkk
 go_enter L.fM,Tryz.ntmps283
 have z0:¬ (m:Int) - (a:Int)=1:=by omega
 have z0b:((m:Int) - (a:Int) == 1)=false:=by simpa using z0
 have z3:(b:Int) - (m:Int)=1:=by omega
 have HM:Hid (b=m + 1):=hm
 clear hm
 go_wp2
 go_loopw [14,15] (fun i j wr=>∃ (p z:Nat),a≤p∧p≤z∧z≤m∧i = .int .i64 p∧j = .int .i64 z∧Hid (a < p→ltP d[m]! d[p - 1]! = false)∧Hid (z < m→ltP d[m]! d[z]! = true)∧Hid (Cs w0 blk off n wr d)) (fun i j _=>(intOf j).toNat - (intOf i).toNat)
 case atStart=>exact ⟨a,m,Nat.le_refl _,by omega,Nat.le_refl _,rfl,rfl,fun h=>absurd h (Nat.lt_irrefl _),fun h=>absurd h (Nat.lt_irrefl _),HS0⟩
 case round=>
  obtain ⟨p,z,hp,hpq,hqb,rfl,rfl,K1,K2,HS⟩:=hrel
  by_cases hlt:p < z
  ·obtain ⟨x,hx⟩:∃ x,x=(p + z) / 2:=⟨_,rfl⟩
   have ex:((p:Int) + (z:Int)) / 2=(x:Int):=by omega
   have HE:Hid (x=(p + z) / 2):=hx
   have hxn:x < m:=by omega
   have HLT:Hid (ltP d[m]! d[x]! = decide (cmpE d[m]!.1 d[x]!.1 < 0)):=cmp_ltP (HAP.out x m (by omega) (by omega) (Nat.le_refl _) (by omega))
   clear hx
   have lj:=fun (n':Nat) (os':Array Obj)=>(HS.out.grown n' os').load h0 HKK.out m (by omega) P
   have lp:=fun (n':Nat) (os':Array Obj)=>(HS.out.grown n' os').load h0 HKK.out x (by omega) P
   have hcg:=fun (n':Nat) (os':Array Obj)=>HC.out d[m]! d[x]! (grow (wr.drewN n') os')
   generalize encP d[m]! = cx at lj hcg
   generalize encP d[x]! = cy at lp hcg
   generalize hcv:cmpE d[m]!.1 d[x]!.1=cv at hcg
   have HLV:Hid (ltP d[m]! d[x]! = decide (cv < 0)):=by rw [← hcv];exact HLT.out
   clear hcv HLT
   have jz:(x:Int) < (n:Int):=by omega
   have jz1:(m:Int) < (n:Int):=by omega
   by_cases hlv:cv < 0
   ·have hld:decide (cv < 0)=true:=by simpa using hlv
    go_wp2_with fail
    go_quiet_grown (first | (go_at_fn g;refine Calls.grown_of (hcg _ _)))
    go_wp2
    go_roundw
    case rel=>exact ⟨p,x,by omega,by have:=HE.out;omega,by omega,rfl,rfl,K1,fun _=>by rw [HLV.out];simpa using hlv,HS.out.grown nq osq⟩
    case measure=>have:=HE.out;simp [intOf];omega
   ·have hld:decide (cv < 0)=false:=by simpa using hlv
    go_wp2_with fail
    go_quiet_grown (first | (go_at_fn g;refine Calls.grown_of (hcg _ _)))
    go_wp2
    go_roundw
    case rel=>exact ⟨x + 1,z,by have:=HE.out;omega,by have:=HE.out;omega,hqb,by go_num,rfl,fun _=>by rw [Nat.add_sub_cancel,HLV.out];simpa using hlv,K2,HS.out.grown nq osq⟩
    case measure=>have:=HE.out;simp [intOf];omega
  ·obtain rfl:z=p:=by omega
   obtain ⟨W1,rfl⟩:∃ x,x=wr:=⟨_,rfl⟩
   go_wp2
   go_loopw [17] (fun i wr=>∃ (k:Nat) (e:Array EvN),z≤k∧k≤m∧i = .int .i64 k∧Hid (Cs w0 blk off n wr e)∧Hid (Rotated k m (m + 1) d e)∧Hid (PermIn a b d e)) (fun i _=>(intOf i).toNat)
   case atStart=>exact ⟨m,d,by omega,Nat.le_refl _,rfl,HS,rotated_none_left d,permIn_refl _ _ _⟩
   case round=>
    obtain ⟨k,e,hqk,hkm,rfl,HS4,HR4,HP4⟩:=hrel
    by_cases hkl:z < k
    ·obtain ⟨k,rfl⟩:∃ i,k=i + 1:=⟨k - 1,by omega⟩
     have hes:=HS4.out.size
     obtain ⟨cX,cY,V1,V2,l1,l2,e1,e2,s1,s2,hc⟩:=HS4.out.exch h0 HKK.out P (k + 1) k (by omega) (by omega)
     have HS5:Hid (Cs w0 blk off n V2 (swp e (k + 1) k)):=hc
     have HR5:Hid (Rotated k m (m + 1) d (swp e (k + 1) k)):=rot_left_step HR4.out (by omega) (by omega)
     have HP5:Hid (PermIn a b d (swp e (k + 1) k)):=permIn_trans _ _ _ _ _ HP4.out (swp_permIn e a b (k + 1) k (by omega) (by omega) (by omega) (by omega) (by omega))
     have z1:(z:Int) < (k:Int) + 1:=by omega
     have jz:(k:Int) + 1 < (n:Int):=by omega
     have jz1:(k:Int) < (n:Int):=by omega
     have p0:(0:Int)≤(k:Int) + 1:=by omega
     have e0:((k:Int) + 1).toNat=k + 1:=by omega
     clear hc
     go_wp2_with fail
     go_big_region_o
     all_goals go_wp2
     go_roundw
     case rel=>exact ⟨k,_,by omega,by omega,by go_num,HS5,HR5,HP5⟩
     case measure=>simp [intOf] <;> omega
    ·have z1:¬ (z:Int) < (k:Int):=by omega
     have z2:decide ((z:Int) < (k:Int))=false:=by simpa using z1
     obtain rfl:k=z:=by omega
     go_wp2
     refine bodyPost_ret (results_none rfl _ _ _) rfl ?_
     refine ⟨rfl,e,HS4.out,?_,HP4.out⟩
     rw [HM.out]
     exact one_left swo_P HS2.out (by omega) (by omega) HR4.out K1.out K2.out
end
end Go.Proofs.YtbleojodidbhiaaGreatDoor
