/-  -/
import Derived.Test.YtdkhohlhdiekmaaGreatDoorBnI
import Derived.Test.YtdkhohlhdiekmaaGreatDoorBnA
import Derived.Shelf.Abstract
namespace Go.Proofs.YtdkhohlhdiekmaaGreatDoor
open Go.RowKit
open Go.Sort hiding Below
open Go.Shelf
variable {α:Type} [Inhabited α]
structure Sorts (lt:α→α→Bool) (g:Nat) (lb:Array Value) (sf:Nat) (sb:Array Value) (blk N:Nat) (St:World→Array α→Prop):Prop where
 size:∀ W d,St W d→d.size=N
 blt:∀ W d,St W d→blk < W.heap.size
 less:∀ W d (i j:Nat),St W d→i < N→j < N→Calls Tryz.prog g (#[.int .i64 i,.int .i64 j] ++ lb) W fun e w'=>e = .returned (.bool (lt d[i]! d[j]!))∧Below W.heap.size W w'
 swap:∀ W d (i j:Nat),St W d→i < N→j < N→i ≠ j→∃ W',(callFunc sf (#[.int .i64 i,.int .i64 j] ++ sb)).run Tryz.prog W = .ok (.value (.tuple #[])) W'∧St W' (swp d i j)∧W.grownBy W' (some blk)
 below:∀ W W' d,St W d→Below W.heap.size W W'→St W' d
 eg:∀ args w,(callFunc g args).run Tryz.prog w = .ok (.enter g args) w
def dV (g:Nat) (lb:Array Value) (sf:Nat) (sb:Array Value):Value:=.agg #[.func (.func g) #[] lb,.func (.func sf) #[] sb]
theorem grown_below {w w':World} {r:Option Nat} (h:Below w.heap.size w w'):w.grownBy w' r:=⟨h.os,h.tape,h.output,h.size,fun k hk _=>h.block k hk⟩
theorem grown_then {a b c:World} {r:Nat} (h:a.grownBy b (some r)) (h':b.grownBy c (some r)):a.grownBy c (some r):=
 ⟨h'.os.trans h.os,h'.tape.trans h.tape,h'.output.trans h.output,Nat.le_trans h.size h'.size,fun k hk hn=>(h'.block k (Nat.lt_of_lt_of_le hk h.size) hn).trans (h.block k hk hn)⟩
theorem grown_refl (w:World) (r:Option Nat):w.grownBy w r:=⟨rfl,rfl,rfl,Nat.le_refl _,fun _ _ _=>rfl⟩
theorem grown_cell {w w':World} {r c o:Nat} {v:Value} (h:w.grownBy w' (some r)) (hc:c ≠ r) (hv:w.cell? ⟨c,o,none⟩=some v):w'.cell? ⟨c,o,none⟩=some v:=h.cell hv (fun e=>hc (by injection e))
section
variable {lt:α→α→Bool} {g:Nat} {lb:Array Value} {sf:Nat} {sb:Array Value} {blk N:Nat} {St:World→Array α→Prop}
set_option maxRecDepth 20000 in
set_option maxHeartbeats 4000000 in
theorem swapRange_any (S:Sorts lt g lb sf sb blk N St) (d:Array α) (w:World) (h:St w d) (a b n:Nat) (h1:a + n≤b) (h2:b + n≤N) (hN:N≤1000000) :
  Calls Tryz.prog 229 #[dV g lb sf sb,.int .i64 a,.int .i64 b,.int .i64 n] w fun e w'=>e = .returned (.tuple #[])∧∃ d',St w' d'∧Swapped a b n d d'∧PermIn a (b + n) d d'∧w.grownBy w' (some blk):=by
 have hbl:=S.blt w d h
 have hsz:=S.size w d h
 unfold dV
 obtain ⟨W0,hW0⟩:∃ W,W=w.alloc (.cells #[.func (.func g) #[] lb,.func (.func sf) #[] sb] 205):=⟨_,rfl⟩
 have hB0:Below w.heap.size w W0:=by rw [hW0];exact (Below.refl _ _).alloc (Nat.le_refl _) _
 have c1:W0.cell? ⟨w.heap.size,1,none⟩=some (.func (.func sf) #[] sb):=by rw [hW0];simp
 have HS0:Hid (St W0 d):=S.below _ _ _ h hB0
 have HW0:Hid (W0=_):=hW0
 clear hW0
 go_enter Tryz.func229,Tryz.ntmps229
 go_wp2
 rw [← HW0.out]
 go_loopw [8] (fun i wr=>∃ (k:Nat) (e:Array α),k≤n∧i = .int .i64 k∧Hid (St wr e)∧Hid (Swapped a b k d e)∧Hid (PermIn a (b + n) d e)∧Hid (W0.grownBy wr (some blk))) (fun i _=>n - (intOf i).toNat)
 case atStart=>exact ⟨0,d,Nat.zero_le _,rfl,HS0,swapped_zero a b d,permIn_refl _ _ _,grown_refl _ _⟩
 case round=>
  obtain ⟨k,e,hk,rfl,HS,HW,HP,HG⟩:=hrel
  by_cases hlt:k < n
  ·have hes:=S.size wr e HS.out
   obtain ⟨W',hrun,hst,hgr⟩:=S.swap wr e (a + k) (b + k) HS.out (by omega) (by omega) (by omega)
   rw [Int.natCast_add,Int.natCast_add] at hrun
   have cw:wr.cell? ⟨w.heap.size,1,none⟩=some (.func (.func sf) #[] sb):=grown_cell HG.out (by omega) c1
   have HS':Hid (St W' (swp e (a + k) (b + k))):=hst
   have HW':Hid (Swapped a b (k + 1) d (swp e (a + k) (b + k))):=swapped_step HW.out (by omega) (by omega) (by omega)
   have HP':Hid (PermIn a (b + n) d (swp e (a + k) (b + k))):=permIn_trans _ _ _ _ _ HP.out (swp_permIn e a (b + n) (a + k) (b + k) (by omega) (by omega) (by omega) (by omega) (by omega))
   have HG':Hid (W0.grownBy W' (some blk)):=grown_then HG.out hgr
   clear hst hgr
   go_wp2
   go_roundw
   case rel=>exact ⟨k + 1,_,by omega,by go_num,HS',HW',HP',HG'⟩
   case measure=>simp [intOf];omega
  ·obtain rfl:k=n:=by omega
   go_wp2
   go_end0
   exact ⟨rfl,e,HS.out,HW.out,HP.out,grown_then (grown_below hB0) HG.out⟩
set_option maxRecDepth 20000 in
set_option maxHeartbeats 4000000 in
theorem insertion_any (S:Sorts lt g lb sf sb blk N St) (hO:SWO lt) (d:Array α) (w:World) (h:St w d) (a b:Nat) (h1:a≤b) (h2:b≤N) (hN:N≤1000000) :
  Calls Tryz.prog 168 #[dV g lb sf sb,.int .i64 a,.int .i64 b] w fun e w'=>e = .returned (.tuple #[])∧∃ d',St w' d'∧SortedIn lt a b d'∧PermIn a b d d'∧w.grownBy w' (some blk):=by
 have hbl:=S.blt w d h
 have hsz:=S.size w d h
 unfold dV
 obtain ⟨W0,hW0⟩:∃ W,W=w.alloc (.cells #[.func (.func g) #[] lb,.func (.func sf) #[] sb] 205):=⟨_,rfl⟩
 have hB0:Below w.heap.size w W0:=by rw [hW0];exact (Below.refl _ _).alloc (Nat.le_refl _) _
 have c0:W0.cell? ⟨w.heap.size,0,none⟩=some (.func (.func g) #[] lb):=by rw [hW0];simp
 have c1:W0.cell? ⟨w.heap.size,1,none⟩=some (.func (.func sf) #[] sb):=by rw [hW0];simp
 have HS0:Hid (St W0 d):=S.below _ _ _ h hB0
 have HW0:Hid (W0=_):=hW0
 have eg:=S.eg
 clear hW0
 go_enter Tryz.func168,Tryz.ntmps168
 go_wp2
 rw [← HW0.out]
 go_loopw [6] (fun i wr=>∃ (k:Nat) (e:Array α),a + 1≤k∧k≤N + 1∧i = .int .i64 k∧Hid (St wr e)∧Hid (insOuter lt a b k e=insertionSort lt d a b)∧Hid (W0.grownBy wr (some blk))) (fun i _=>N + 1 - (intOf i).toNat)
 case atStart=>exact ⟨a + 1,d,Nat.le_refl _,by omega,by go_num,HS0,rfl,grown_refl _ _⟩
 case round=>
  obtain ⟨k,e,hk1,hk2,rfl,HS,HI,HG⟩:=hrel
  by_cases hlt:k < b
  ·have HI2:Hid (insOuter lt a b (k + 1) (insInner lt a k e)=insertionSort lt d a b):=by
    have:=HI.out
    rw [insOuter,if_pos hlt] at this
    exact this
   obtain ⟨W1,rfl⟩:∃ x,x=wr:=⟨_,rfl⟩
   go_wp2
   go_loopw [7] (fun i wr=>∃ (j:Nat) (e2:Array α),j≤k∧a≤j∧i = .int .i64 j∧Hid (St wr e2)∧Hid (insInner lt a j e2=insInner lt a k e)∧Hid (W0.grownBy wr (some blk))) (fun i _=>(intOf i).toNat)
   case atStart=>exact ⟨k,e,Nat.le_refl _,by omega,rfl,HS,rfl,HG⟩
   case round=>
    obtain ⟨j,e2,hj,haj,rfl,HS2,HJ,HG2⟩:=hrel
    have cw0:wr.cell? ⟨w.heap.size,0,none⟩=some (.func (.func g) #[] lb):=grown_cell HG2.out (by omega) c0
    have cw1:wr.cell? ⟨w.heap.size,1,none⟩=some (.func (.func sf) #[] sb):=grown_cell HG2.out (by omega) c1
    by_cases hja:a < j
    ·obtain ⟨i,rfl⟩:∃ i,j=i + 1:=⟨j - 1,by omega⟩
     have hl:=S.less wr e2 (i + 1) i HS2.out (by omega) (by omega)
     rw [show ((i + 1:Nat):Int)=(i:Int) + 1 from rfl] at hl
     have hz:(a:Int) < (i:Int) + 1:=by omega
     have HJ2:Hid (insInner lt a (i + 1) e2=if (i + 1 > a && lt e2[i + 1]! e2[i]!)=true then insInner lt a i (swp e2 (i + 1) i) else e2):=rfl
     generalize hlv:lt e2[i + 1]! e2[i]! = lv at hl
     have HLV:Hid (lt e2[i + 1]! e2[i]! = lv):=hlv
     clear hlv
     go_wp2_with fail
     refine hl.mono ?_
     rintro e3 w2 ⟨rfl,hb2⟩
     have HS3:=S.below _ _ _ HS2.out hb2
     have cw2:w2.cell? ⟨w.heap.size,1,none⟩=some (.func (.func sf) #[] sb):=(hb2.cell (p:=⟨w.heap.size,1,none⟩) (World.block_lt_of_cell? _ _ cw1)).trans cw1
     have HG3:Hid (W0.grownBy w2 (some blk)):=grown_then HG2.out (grown_below hb2)
     clear hl cw0 cw1
     cases lv with
     | true=>
      obtain ⟨W',hrun,hst,hgr⟩:=S.swap w2 e2 (i + 1) i HS3 (by omega) (by omega) (by omega)
      rw [show ((i + 1:Nat):Int)=(i:Int) + 1 from rfl] at hrun
      have HS4:Hid (St W' (swp e2 (i + 1) i)):=hst
      have HJ4:Hid (insInner lt a i (swp e2 (i + 1) i)=insInner lt a k e):=by
       have e1:=HJ2.out
       rw [HLV.out,if_pos (by simp;omega)] at e1
       exact e1.symm.trans HJ.out
      have HG4:Hid (W0.grownBy W' (some blk)):=grown_then HG3.out hgr
      clear hst hgr HS3
      go_wp2
      go_roundw
      case rel=>exact ⟨i,_,by omega,by omega,by go_num,HS4,HJ4,HG4⟩
      case measure=>simp [intOf] <;> omega
     | false=>
      have HI3:Hid (insOuter lt a b (k + 1) e2=insertionSort lt d a b):=by
       have e1:=HJ2.out
       rw [HLV.out,if_neg (by simp)] at e1
       have:=HI2.out
       rw [← HJ.out,e1] at this
       exact this
      go_wp2
      go_roundw
      case rel=>exact ⟨k + 1,e2,by omega,by omega,by go_num,HS3,HI3,HG3⟩
      case measure=>simp [intOf];omega
    ·have hz:¬ (a:Int) < (j:Int):=by omega
     have hzd:decide ((a:Int) < (j:Int))=false:=by simpa using hz
     have HI3:Hid (insOuter lt a b (k + 1) e2=insertionSort lt d a b):=by
      have e1:insInner lt a j e2=e2:=by
       cases j with
       | zero=>rfl
       | succ i=>rw [insInner,if_neg (by simp;omega)]
      have:=HI2.out
      rw [← HJ.out,e1] at this
      exact this
     go_wp2
     go_roundw
     case rel=>exact ⟨k + 1,e2,by omega,by omega,by go_num,HS2,HI3,HG2⟩
     case measure=>simp [intOf];omega
  ·go_wp2
   go_end0
   have hfin:e=insertionSort lt d a b:=by
    have:=HI.out
    rw [insOuter,if_neg hlt] at this
    exact this
   have hsp:=insertionSort_holds (lt:=lt) hO d a b h1 (by omega)
   exact ⟨rfl,e,HS.out,by rw [hfin];exact hsp.2,by rw [hfin];exact hsp.1,grown_then (grown_below hB0) HG.out⟩
set_option maxRecDepth 20000 in
set_option maxHeartbeats 4000000 in
theorem rotate_any (S:Sorts lt g lb sf sb blk N St) (d:Array α) (w:World) (h:St w d) (a m b:Nat) (h1:a < m) (h2:m < b) (h3:b≤N) (hN:N≤1000000) :
  Calls Tryz.prog 200 #[dV g lb sf sb,.int .i64 a,.int .i64 m,.int .i64 b] w fun e w'=>e = .returned (.tuple #[])∧∃ d',St w' d'∧Rotated a m b d d'∧PermIn a b d d'∧w.grownBy w' (some blk):=by
 have hbl:=S.blt w d h
 have hsz:=S.size w d h
 obtain ⟨R,hR⟩:∃ R:Nat→α,R=fun t=>if a≤t∧t < a + (b - m) then d[t + (m - a)]! else if a + (b - m)≤t∧t < b then d[t - (b - m)]! else d[t]!:=⟨_,rfl⟩
 have HR:Hid (R=_):=hR
 have HT0:Hid (Turns m (m - a) (b - m) R d):=by rw [hR];exact turns_start d (by omega) (by omega)
 clear hR
 have hsw:=fun W e (x y n:Nat) (hs:St W e) (hx:x + n≤y) (hy:y + n≤N)=>swapRange_any S e W hs x y n hx hy hN
 unfold dV at hsw ⊢
 obtain ⟨W0,hW0⟩:∃ W,W=w.alloc (.cells #[.func (.func g) #[] lb,.func (.func sf) #[] sb] 205):=⟨_,rfl⟩
 have hB0:Below w.heap.size w W0:=by rw [hW0];exact (Below.refl _ _).alloc (Nat.le_refl _) _
 have c0:W0.cell? ⟨w.heap.size,0,none⟩=some (.func (.func g) #[] lb):=by rw [hW0];simp
 have c1:W0.cell? ⟨w.heap.size,1,none⟩=some (.func (.func sf) #[] sb):=by rw [hW0];simp
 have HS0:Hid (St W0 d):=S.below _ _ _ h hB0
 have HW0:Hid (W0=_):=hW0
 clear hW0
 have za:(a:Int) < (m:Int):=by omega
 have zm:(m:Int) < (b:Int):=by omega
 have zb:(b:Int)≤1000000:=by omega
 go_enter Tryz.func200,Tryz.ntmps200
 go_wp2
 rw [← HW0.out]
 go_loopw [8,9] (fun i j wr=>∃ (p q:Nat) (e:Array α),0 < p∧0 < q∧p≤m - a∧q≤b - m∧i = .int .i64 p∧j = .int .i64 q∧Hid (St wr e)∧Hid (Turns m p q R e)∧Hid (PermIn a b d e)∧Hid (W0.grownBy wr (some blk))) (fun i j _=>(intOf i).toNat + (intOf j).toNat)
 case atStart=>exact ⟨m - a,b - m,d,by omega,by omega,Nat.le_refl _,Nat.le_refl _,by rw [Int.ofNat_sub (by omega)],by rw [Int.ofNat_sub (by omega)],HS0,HT0,permIn_refl _ _ _,grown_refl _ _⟩
 case round=>
  obtain ⟨p,q,e,hp0,hq0,hpm,hqb,rfl,rfl,HS,HT,HP,HG⟩:=hrel
  have cw0:wr.cell? ⟨w.heap.size,0,none⟩=some (.func (.func g) #[] lb):=grown_cell HG.out (by omega) c0
  have cw1:wr.cell? ⟨w.heap.size,1,none⟩=some (.func (.func sf) #[] sb):=grown_cell HG.out (by omega) c1
  have e1:Hid (((m - p:Nat):Int)=(m:Int) - p):=Int.ofNat_sub (by omega)
  rcases Nat.lt_trichotomy p q with hlt | heq | hgt
  ·have z1:(p:Int) < (q:Int):=by omega
   have hc:=hsw wr e (m - p) (m + q - p) p HS.out (by omega) (by omega)
   have e2:((m + q - p:Nat):Int)=(m:Int) + q - p:=by rw [Int.ofNat_sub (by omega),Int.natCast_add]
   rw [e1.out,e2] at hc
   clear e2
   go_wp2_with fail
   refine hc.mono ?_
   rintro e3 w2 ⟨rfl,d2,hs2,hw2,hp2,hg2⟩
   have HS2:Hid (St w2 d2):=hs2
   have HT2:Hid (Turns m p (q - p) R d2):=turns_right HT.out (by omega) hlt hw2
   have HP2:Hid (PermIn a b d d2):=permIn_trans _ _ _ _ _ HP.out (permIn_mono _ _ _ _ _ _ (by omega) (by omega) (by have:=S.size _ _ HS.out;omega) hp2)
   have HG2:Hid (W0.grownBy w2 (some blk)):=grown_then HG.out hg2
   clear hs2 hw2 hp2 hg2 hc cw0 cw1
   go_wp2
   go_roundw
   case rel=>exact ⟨p,q - p,d2,by omega,by omega,by omega,by omega,rfl,by rw [Int.ofNat_sub (by omega)],HS2,HT2,HP2,HG2⟩
   case measure=>simp [intOf];omega
  ·subst heq
   have hc:=hsw wr e (m - p) m p HS.out (by omega) (by omega)
   rw [e1.out] at hc
   go_wp2_with fail
   refine hc.mono ?_
   rintro e3 w2 ⟨rfl,d2,hs2,hw2,hp2,hg2⟩
   go_wp2
   go_end0
   refine ⟨rfl,d2,hs2,?_,permIn_trans _ _ _ _ _ HP.out (permIn_mono _ _ _ _ _ _ (by omega) (by omega) (by have:=S.size _ _ HS.out;omega) hp2),grown_then (grown_then (grown_below hB0) HG.out) hg2⟩
   have:=turns_end HT.out (by omega) hw2
   rw [HR.out] at this
   exact this
  ·have z1:(q:Int) < (p:Int):=by omega
   have hc:=hsw wr e (m - p) m q HS.out (by omega) (by omega)
   rw [e1.out] at hc
   go_wp2_with fail
   refine hc.mono ?_
   rintro e3 w2 ⟨rfl,d2,hs2,hw2,hp2,hg2⟩
   have HS2:Hid (St w2 d2):=hs2
   have HT2:Hid (Turns m (p - q) q R d2):=turns_left HT.out (by omega) hgt hw2
   have HP2:Hid (PermIn a b d d2):=permIn_trans _ _ _ _ _ HP.out (permIn_mono _ _ _ _ _ _ (by omega) (by omega) (by have:=S.size _ _ HS.out;omega) hp2)
   have HG2:Hid (W0.grownBy w2 (some blk)):=grown_then HG.out hg2
   clear hs2 hw2 hp2 hg2 hc cw0 cw1
   go_wp2
   go_roundw
   case rel=>exact ⟨p - q,q,d2,by omega,by omega,by omega,by omega,by rw [Int.ofNat_sub (by omega)],rfl,HS2,HT2,HP2,HG2⟩
   case measure=>simp [intOf];omega
end
end Go.Proofs.YtdkhohlhdiekmaaGreatDoor
namespace Go.Proofs.YtdkhohlhdiekmaaGreatDoor
open Go.RowKit
open Go.Sort hiding Below
open Go.Shelf
variable {α:Type} [Inhabited α]
structure SortsQ (lt:α→α→Bool) (q:α→α→Prop) (g:Nat) (lb:Array Value) (sf:Nat) (sb:Array Value) (blk N:Nat) (St:World→Array α→Prop):Prop where
 size:∀ W d,St W d→d.size=N
 blt:∀ W d,St W d→blk < W.heap.size
 less:∀ W d (i j:Nat),St W d→i < N→j < N→q d[i]! d[j]! → Calls Tryz.prog g (#[.int .i64 i,.int .i64 j] ++ lb) W fun e w'=>e = .returned (.bool (lt d[i]! d[j]!))∧Below W.heap.size W w'
 swap:∀ W d (i j:Nat),St W d→i < N→j < N→i ≠ j→∃ W',(callFunc sf (#[.int .i64 i,.int .i64 j] ++ sb)).run Tryz.prog W = .ok (.value (.tuple #[])) W'∧St W' (swp d i j)∧W.grownBy W' (some blk)
 below:∀ W W' d,St W d→Below W.heap.size W W'→St W' d
 eg:∀ args w,(callFunc g args).run Tryz.prog w = .ok (.enter g args) w
section
variable {lt:α→α→Bool} {q:α→α→Prop} {g:Nat} {lb:Array Value} {sf:Nat} {sb:Array Value} {blk N:Nat} {St:World→Array α→Prop}
set_option maxRecDepth 20000 in
set_option maxHeartbeats 4000000 in
theorem sb_swapRange_any (S:SortsQ lt q g lb sf sb blk N St) (d:Array α) (w:World) (h:St w d) (a b n:Nat) (h1:a + n≤b) (h2:b + n≤N) (hN:N≤1000000) :
  Calls Tryz.prog 229 #[dV g lb sf sb,.int .i64 a,.int .i64 b,.int .i64 n] w fun e w'=>e = .returned (.tuple #[])∧∃ d',St w' d'∧Swapped a b n d d'∧PermIn a (b + n) d d'∧w.grownBy w' (some blk):=by
 have hbl:=S.blt w d h
 have hsz:=S.size w d h
 unfold dV
 obtain ⟨W0,hW0⟩:∃ W,W=w.alloc (.cells #[.func (.func g) #[] lb,.func (.func sf) #[] sb] 205):=⟨_,rfl⟩
 have hB0:Below w.heap.size w W0:=by rw [hW0];exact (Below.refl _ _).alloc (Nat.le_refl _) _
 have c1:W0.cell? ⟨w.heap.size,1,none⟩=some (.func (.func sf) #[] sb):=by rw [hW0];simp
 have HS0:Hid (St W0 d):=S.below _ _ _ h hB0
 have HW0:Hid (W0=_):=hW0
 clear hW0
 go_enter Tryz.func229,Tryz.ntmps229
 go_wp2
 rw [← HW0.out]
 go_loopw [8] (fun i wr=>∃ (k:Nat) (e:Array α),k≤n∧i = .int .i64 k∧Hid (St wr e)∧Hid (Swapped a b k d e)∧Hid (PermIn a (b + n) d e)∧Hid (W0.grownBy wr (some blk))) (fun i _=>n - (intOf i).toNat)
 case atStart=>exact ⟨0,d,Nat.zero_le _,rfl,HS0,swapped_zero a b d,permIn_refl _ _ _,grown_refl _ _⟩
 case round=>
  obtain ⟨k,e,hk,rfl,HS,HW,HP,HG⟩:=hrel
  by_cases hlt:k < n
  ·have hes:=S.size wr e HS.out
   obtain ⟨W',hrun,hst,hgr⟩:=S.swap wr e (a + k) (b + k) HS.out (by omega) (by omega) (by omega)
   rw [Int.natCast_add,Int.natCast_add] at hrun
   have cw:wr.cell? ⟨w.heap.size,1,none⟩=some (.func (.func sf) #[] sb):=grown_cell HG.out (by omega) c1
   have HS':Hid (St W' (swp e (a + k) (b + k))):=hst
   have HW':Hid (Swapped a b (k + 1) d (swp e (a + k) (b + k))):=swapped_step HW.out (by omega) (by omega) (by omega)
   have HP':Hid (PermIn a (b + n) d (swp e (a + k) (b + k))):=permIn_trans _ _ _ _ _ HP.out (swp_permIn e a (b + n) (a + k) (b + k) (by omega) (by omega) (by omega) (by omega) (by omega))
   have HG':Hid (W0.grownBy W' (some blk)):=grown_then HG.out hgr
   clear hst hgr
   go_wp2
   go_roundw
   case rel=>exact ⟨k + 1,_,by omega,by go_num,HS',HW',HP',HG'⟩
   case measure=>simp [intOf];omega
  ·obtain rfl:k=n:=by omega
   go_wp2
   go_end0
   exact ⟨rfl,e,HS.out,HW.out,HP.out,grown_then (grown_below hB0) HG.out⟩
set_option maxRecDepth 20000 in
set_option maxHeartbeats 4000000 in
theorem sb_insertion_any (S:SortsQ lt q g lb sf sb blk N St) (hO:SWO lt) (d:Array α) (w:World) (h:St w d) (a b:Nat) (h1:a≤b) (h2:b≤N) (hN:N≤1000000) (hq:∀ s t,a≤s→s < t→t < b→q d[t]! d[s]!) :
  Calls Tryz.prog 168 #[dV g lb sf sb,.int .i64 a,.int .i64 b] w fun e w'=>e = .returned (.tuple #[])∧∃ d',St w' d'∧SortedIn lt a b d'∧PermIn a b d d'∧w.grownBy w' (some blk):=by
 have hbl:=S.blt w d h
 have hsz:=S.size w d h
 unfold dV
 obtain ⟨W0,hW0⟩:∃ W,W=w.alloc (.cells #[.func (.func g) #[] lb,.func (.func sf) #[] sb] 205):=⟨_,rfl⟩
 have hB0:Below w.heap.size w W0:=by rw [hW0];exact (Below.refl _ _).alloc (Nat.le_refl _) _
 have c0:W0.cell? ⟨w.heap.size,0,none⟩=some (.func (.func g) #[] lb):=by rw [hW0];simp
 have c1:W0.cell? ⟨w.heap.size,1,none⟩=some (.func (.func sf) #[] sb):=by rw [hW0];simp
 have HS0:Hid (St W0 d):=S.below _ _ _ h hB0
 have HW0:Hid (W0=_):=hW0
 have eg:=S.eg
 have HQ:Hid (∀ s t,a≤s→s < t→t < b→q d[t]! d[s]!):=hq
 clear hW0 hq
 go_enter Tryz.func168,Tryz.ntmps168
 go_wp2
 rw [← HW0.out]
 go_loopw [6] (fun i wr=>∃ (k:Nat) (e:Array α),a + 1≤k∧k≤N + 1∧i = .int .i64 k∧Hid (St wr e)∧Hid (insOuter lt a b k e=insertionSort lt d a b)∧Hid (Later q a b k e)∧Hid (W0.grownBy wr (some blk))) (fun i _=>N + 1 - (intOf i).toNat)
 case atStart=>exact ⟨a + 1,d,Nat.le_refl _,by omega,by go_num,HS0,rfl,fun x y h1 h2 h3 _=>HQ.out x y h1 h2 h3,grown_refl _ _⟩
 case round=>
  obtain ⟨k,e,hk1,hk2,rfl,HS,HI,HQ1,HG⟩:=hrel
  by_cases hlt:k < b
  ·have HI2:Hid (insOuter lt a b (k + 1) (insInner lt a k e)=insertionSort lt d a b):=by
    have:=HI.out
    rw [insOuter,if_pos hlt] at this
    exact this
   obtain ⟨W1,rfl⟩:∃ x,x=wr:=⟨_,rfl⟩
   go_wp2
   go_loopw [7] (fun i wr=>∃ (j:Nat) (e2:Array α),j≤k∧a≤j∧i = .int .i64 j∧Hid (St wr e2)∧Hid (insInner lt a j e2=insInner lt a k e)∧Hid (Into q a b (k + 1) j e2)∧Hid (W0.grownBy wr (some blk))) (fun i _=>(intOf i).toNat)
   case atStart=>exact ⟨k,e,Nat.le_refl _,by omega,rfl,HS,rfl,⟨fun x h1 h2=>HQ1.out x k h1 h2 hlt (Nat.le_refl _),fun x y h1 h2 h3 h4=>HQ1.out x y h1 h2 h3 (by omega)⟩,HG⟩
   case round=>
    obtain ⟨j,e2,hj,haj,rfl,HS2,HJ,HQ2,HG2⟩:=hrel
    have cw0:wr.cell? ⟨w.heap.size,0,none⟩=some (.func (.func g) #[] lb):=grown_cell HG2.out (by omega) c0
    have cw1:wr.cell? ⟨w.heap.size,1,none⟩=some (.func (.func sf) #[] sb):=grown_cell HG2.out (by omega) c1
    by_cases hja:a < j
    ·obtain ⟨i,rfl⟩:∃ i,j=i + 1:=⟨j - 1,by omega⟩
     have hl:=S.less wr e2 (i + 1) i HS2.out (by omega) (by omega) (HQ2.out.1 i (by omega) (Nat.lt_succ_self i))
     rw [show ((i + 1:Nat):Int)=(i:Int) + 1 from rfl] at hl
     have hz:(a:Int) < (i:Int) + 1:=by omega
     have HJ2:Hid (insInner lt a (i + 1) e2=if (i + 1 > a && lt e2[i + 1]! e2[i]!)=true then insInner lt a i (swp e2 (i + 1) i) else e2):=rfl
     generalize hlv:lt e2[i + 1]! e2[i]! = lv at hl
     have HLV:Hid (lt e2[i + 1]! e2[i]! = lv):=hlv
     clear hlv
     go_wp2_with fail
     refine hl.mono ?_
     rintro e3 w2 ⟨rfl,hb2⟩
     have HS3:=S.below _ _ _ HS2.out hb2
     have cw2:w2.cell? ⟨w.heap.size,1,none⟩=some (.func (.func sf) #[] sb):=(hb2.cell (p:=⟨w.heap.size,1,none⟩) (World.block_lt_of_cell? _ _ cw1)).trans cw1
     have HG3:Hid (W0.grownBy w2 (some blk)):=grown_then HG2.out (grown_below hb2)
     clear hl cw0 cw1
     cases lv with
     | true=>
      obtain ⟨W',hrun,hst,hgr⟩:=S.swap w2 e2 (i + 1) i HS3 (by omega) (by omega) (by omega)
      rw [show ((i + 1:Nat):Int)=(i:Int) + 1 from rfl] at hrun
      have HS4:Hid (St W' (swp e2 (i + 1) i)):=hst
      have HJ4:Hid (insInner lt a i (swp e2 (i + 1) i)=insInner lt a k e):=by
       have e1:=HJ2.out
       rw [HLV.out,if_pos (by simp;omega)] at e1
       exact e1.symm.trans HJ.out
      have HG4:Hid (W0.grownBy W' (some blk)):=grown_then HG3.out hgr
      have HQ4:Hid (Into q a b (k + 1) i (swp e2 (i + 1) i)):=into_swap HQ2.out (by have:=S.size _ _ HS3;omega) (by omega) (by omega)
      clear hst hgr HS3
      go_wp2
      go_roundw
      case rel=>exact ⟨i,_,by omega,by omega,by go_num,HS4,HJ4,HQ4,HG4⟩
      case measure=>simp [intOf] <;> omega
     | false=>
      have HI3:Hid (insOuter lt a b (k + 1) e2=insertionSort lt d a b):=by
       have e1:=HJ2.out
       rw [HLV.out,if_neg (by simp)] at e1
       have:=HI2.out
       rw [← HJ.out,e1] at this
       exact this
      go_wp2
      go_roundw
      case rel=>exact ⟨k + 1,e2,by omega,by omega,by go_num,HS3,HI3,HQ2.out.2,HG3⟩
      case measure=>simp [intOf];omega
    ·have hz:¬ (a:Int) < (j:Int):=by omega
     have hzd:decide ((a:Int) < (j:Int))=false:=by simpa using hz
     have HI3:Hid (insOuter lt a b (k + 1) e2=insertionSort lt d a b):=by
      have e1:insInner lt a j e2=e2:=by
       cases j with
       | zero=>rfl
       | succ i=>rw [insInner,if_neg (by simp;omega)]
      have:=HI2.out
      rw [← HJ.out,e1] at this
      exact this
     go_wp2
     go_roundw
     case rel=>exact ⟨k + 1,e2,by omega,by omega,by go_num,HS2,HI3,HQ2.out.2,HG2⟩
     case measure=>simp [intOf];omega
  ·go_wp2
   go_end0
   have hfin:e=insertionSort lt d a b:=by
    have:=HI.out
    rw [insOuter,if_neg hlt] at this
    exact this
   have hsp:=insertionSort_holds (lt:=lt) hO d a b h1 (by omega)
   exact ⟨rfl,e,HS.out,by rw [hfin];exact hsp.2,by rw [hfin];exact hsp.1,grown_then (grown_below hB0) HG.out⟩
set_option maxRecDepth 20000 in
set_option maxHeartbeats 4000000 in
theorem sb_rotate_any (S:SortsQ lt q g lb sf sb blk N St) (d:Array α) (w:World) (h:St w d) (a m b:Nat) (h1:a < m) (h2:m < b) (h3:b≤N) (hN:N≤1000000) :
  Calls Tryz.prog 200 #[dV g lb sf sb,.int .i64 a,.int .i64 m,.int .i64 b] w fun e w'=>e = .returned (.tuple #[])∧∃ d',St w' d'∧Rotated a m b d d'∧PermIn a b d d'∧w.grownBy w' (some blk):=by
 have hbl:=S.blt w d h
 have hsz:=S.size w d h
 obtain ⟨R,hR⟩:∃ R:Nat→α,R=fun t=>if a≤t∧t < a + (b - m) then d[t + (m - a)]! else if a + (b - m)≤t∧t < b then d[t - (b - m)]! else d[t]!:=⟨_,rfl⟩
 have HR:Hid (R=_):=hR
 have HT0:Hid (Turns m (m - a) (b - m) R d):=by rw [hR];exact turns_start d (by omega) (by omega)
 clear hR
 have hsw:=fun W e (x y n:Nat) (hs:St W e) (hx:x + n≤y) (hy:y + n≤N)=>sb_swapRange_any S e W hs x y n hx hy hN
 unfold dV at hsw ⊢
 obtain ⟨W0,hW0⟩:∃ W,W=w.alloc (.cells #[.func (.func g) #[] lb,.func (.func sf) #[] sb] 205):=⟨_,rfl⟩
 have hB0:Below w.heap.size w W0:=by rw [hW0];exact (Below.refl _ _).alloc (Nat.le_refl _) _
 have c0:W0.cell? ⟨w.heap.size,0,none⟩=some (.func (.func g) #[] lb):=by rw [hW0];simp
 have c1:W0.cell? ⟨w.heap.size,1,none⟩=some (.func (.func sf) #[] sb):=by rw [hW0];simp
 have HS0:Hid (St W0 d):=S.below _ _ _ h hB0
 have HW0:Hid (W0=_):=hW0
 clear hW0
 have za:(a:Int) < (m:Int):=by omega
 have zm:(m:Int) < (b:Int):=by omega
 have zb:(b:Int)≤1000000:=by omega
 go_enter Tryz.func200,Tryz.ntmps200
 go_wp2
 rw [← HW0.out]
 go_loopw [8,9] (fun i j wr=>∃ (p z:Nat) (e:Array α),0 < p∧0 < z∧p≤m - a∧z≤b - m∧i = .int .i64 p∧j = .int .i64 z∧Hid (St wr e)∧Hid (Turns m p z R e)∧Hid (PermIn a b d e)∧Hid (W0.grownBy wr (some blk))) (fun i j _=>(intOf i).toNat + (intOf j).toNat)
 case atStart=>exact ⟨m - a,b - m,d,by omega,by omega,Nat.le_refl _,Nat.le_refl _,by rw [Int.ofNat_sub (by omega)],by rw [Int.ofNat_sub (by omega)],HS0,HT0,permIn_refl _ _ _,grown_refl _ _⟩
 case round=>
  obtain ⟨p,z,e,hp0,hq0,hpm,hqb,rfl,rfl,HS,HT,HP,HG⟩:=hrel
  have cw0:wr.cell? ⟨w.heap.size,0,none⟩=some (.func (.func g) #[] lb):=grown_cell HG.out (by omega) c0
  have cw1:wr.cell? ⟨w.heap.size,1,none⟩=some (.func (.func sf) #[] sb):=grown_cell HG.out (by omega) c1
  have e1:Hid (((m - p:Nat):Int)=(m:Int) - p):=Int.ofNat_sub (by omega)
  rcases Nat.lt_trichotomy p z with hlt | heq | hgt
  ·have z1:(p:Int) < (z:Int):=by omega
   have hc:=hsw wr e (m - p) (m + z - p) p HS.out (by omega) (by omega)
   have e2:((m + z - p:Nat):Int)=(m:Int) + z - p:=by rw [Int.ofNat_sub (by omega),Int.natCast_add]
   rw [e1.out,e2] at hc
   clear e2
   go_wp2_with fail
   refine hc.mono ?_
   rintro e3 w2 ⟨rfl,d2,hs2,hw2,hp2,hg2⟩
   have HS2:Hid (St w2 d2):=hs2
   have HT2:Hid (Turns m p (z - p) R d2):=turns_right HT.out (by omega) hlt hw2
   have HP2:Hid (PermIn a b d d2):=permIn_trans _ _ _ _ _ HP.out (permIn_mono _ _ _ _ _ _ (by omega) (by omega) (by have:=S.size _ _ HS.out;omega) hp2)
   have HG2:Hid (W0.grownBy w2 (some blk)):=grown_then HG.out hg2
   clear hs2 hw2 hp2 hg2 hc cw0 cw1
   go_wp2
   go_roundw
   case rel=>exact ⟨p,z - p,d2,by omega,by omega,by omega,by omega,rfl,by rw [Int.ofNat_sub (by omega)],HS2,HT2,HP2,HG2⟩
   case measure=>simp [intOf];omega
  ·subst heq
   have hc:=hsw wr e (m - p) m p HS.out (by omega) (by omega)
   rw [e1.out] at hc
   go_wp2_with fail
   refine hc.mono ?_
   rintro e3 w2 ⟨rfl,d2,hs2,hw2,hp2,hg2⟩
   go_wp2
   go_end0
   refine ⟨rfl,d2,hs2,?_,permIn_trans _ _ _ _ _ HP.out (permIn_mono _ _ _ _ _ _ (by omega) (by omega) (by have:=S.size _ _ HS.out;omega) hp2),grown_then (grown_then (grown_below hB0) HG.out) hg2⟩
   have:=turns_end HT.out (by omega) hw2
   rw [HR.out] at this
   exact this
  ·have z1:(z:Int) < (p:Int):=by omega
   have hc:=hsw wr e (m - p) m z HS.out (by omega) (by omega)
   rw [e1.out] at hc
   go_wp2_with fail
   refine hc.mono ?_
   rintro e3 w2 ⟨rfl,d2,hs2,hw2,hp2,hg2⟩
   have HS2:Hid (St w2 d2):=hs2
   have HT2:Hid (Turns m (p - z) z R d2):=turns_left HT.out (by omega) hgt hw2
   have HP2:Hid (PermIn a b d d2):=permIn_trans _ _ _ _ _ HP.out (permIn_mono _ _ _ _ _ _ (by omega) (by omega) (by have:=S.size _ _ HS.out;omega) hp2)
   have HG2:Hid (W0.grownBy w2 (some blk)):=grown_then HG.out hg2
   clear hs2 hw2 hp2 hg2 hc cw0 cw1
   go_wp2
   go_roundw
   case rel=>exact ⟨p - z,z,d2,by omega,by omega,by omega,by omega,by rw [Int.ofNat_sub (by omega)],rfl,HS2,HT2,HP2,HG2⟩
   case measure=>simp [intOf];omega
end
end Go.Proofs.YtdkhohlhdiekmaaGreatDoor
namespace Go.Proofs.YtdkhohlhdiekmaaGreatDoor
open Go.RowKit
open Go.Sort hiding Below
open Go.Shelf
variable {α:Type} [Inhabited α]
section
variable {lt:α→α→Bool}
variable {g:Nat} {lb:Array Value} {sf:Nat} {sb:Array Value} {blk N:Nat} {St:World→Array α→Prop}
set_option maxRecDepth 20000 in
set_option maxHeartbeats 4000000 in
theorem merge_one_right (S:Sorts lt g lb sf sb blk N St) (hO:SWO lt) (d:Array α) (w:World) (h:St w d) (a m b:Nat) (hm:m=a + 1) (h2:m < b) (h3:b≤N) (hN:N≤1000000) (hs2:SortedIn lt (a + 1) b d) :
  Calls Tryz.prog 169 #[dV g lb sf sb,.int .i64 a,.int .i64 m,.int .i64 b] w fun e w'=>e = .returned (.tuple #[])∧∃ d',St w' d'∧SortedIn lt a b d'∧PermIn a b d d'∧w.grownBy w' (some blk):=by
 have hbl:=S.blt w d h
 have hsz:=S.size w d h
 unfold dV
 obtain ⟨W0,hW0⟩:∃ W,W=w.alloc (.cells #[.func (.func g) #[] lb,.func (.func sf) #[] sb] 205):=⟨_,rfl⟩
 have hB0:Below w.heap.size w W0:=by rw [hW0];exact (Below.refl _ _).alloc (Nat.le_refl _) _
 have c0:W0.cell? ⟨w.heap.size,0,none⟩=some (.func (.func g) #[] lb):=by rw [hW0];simp
 have c1:W0.cell? ⟨w.heap.size,1,none⟩=some (.func (.func sf) #[] sb):=by rw [hW0];simp
 have HS0:Hid (St W0 d):=S.below _ _ _ h hB0
 have HW0:Hid (W0=_):=hW0
 have HS2:Hid (SortedIn lt (a + 1) b d):=hs2
 have eg:=S.eg
 clear hW0 hs2
 go_enter Tryz.func169,Tryz.ntmps169
 have z0:(m:Int) - (a:Int)=1:=by omega
 have HM:Hid (m=a + 1):=hm
 clear hm
 go_wp2
 rw [← HW0.out]
 go_loopw [8,9] (fun i j wr=>∃ (p q:Nat),a + 1≤p∧p≤q∧q≤b∧i = .int .i64 p∧j = .int .i64 q∧Hid (a + 1 < p→lt d[p - 1]! d[a]! = true)∧Hid (q < b→lt d[q]! d[a]! = false)∧Hid (St wr d)∧Hid (W0.grownBy wr (some blk))) (fun i j _=>(intOf j).toNat - (intOf i).toNat)
 case atStart=>exact ⟨m,b,by omega,by omega,Nat.le_refl _,rfl,rfl,fun h=>absurd h (by omega),fun h=>absurd h (Nat.lt_irrefl _),HS0,grown_refl _ _⟩
 case round=>
  obtain ⟨p,q,hp,hpq,hqb,rfl,rfl,K1,K2,HS,HG⟩:=hrel
  have cw0:wr.cell? ⟨w.heap.size,0,none⟩=some (.func (.func g) #[] lb):=grown_cell HG.out (by omega) c0
  by_cases hlt:p < q
  ·have hl:=S.less wr d ((p + q) / 2) a HS.out (by omega) (by have:=HM.out;omega)
   rw [show (((p + q) / 2:Nat):Int)=((p:Int) + q) / 2 by omega] at hl
   generalize hlv:lt d[(p + q) / 2]! d[a]! = lv at hl
   have HLV:Hid (lt d[(p + q) / 2]! d[a]! = lv):=hlv
   clear hlv
   go_wp2_with fail
   refine hl.mono ?_
   rintro e3 w2 ⟨rfl,hb2⟩
   have HS3:Hid (St w2 d):=S.below _ _ _ HS.out hb2
   have HG3:Hid (W0.grownBy w2 (some blk)):=grown_then HG.out (grown_below hb2)
   clear hl cw0
   cases lv with
   | true=>
    go_wp2
    go_roundw
    case rel=>exact ⟨(p + q) / 2 + 1,q,by omega,by omega,hqb,by rw [show ((p:Int) + (q:Int)) / 2 + 1=(((p + q) / 2 + 1:Nat):Int) by omega],rfl,fun _=>HLV.out,K2,HS3,HG3⟩
    case measure=>simp [intOf];omega
   | false=>
    go_wp2
    go_roundw
    case rel=>exact ⟨p,(p + q) / 2,by omega,by omega,by omega,rfl,by rw [show ((p:Int) + (q:Int)) / 2=(((p + q) / 2:Nat):Int) by omega],K1,fun _=>HLV.out,HS3,HG3⟩
    case measure=>simp [intOf];omega
  ·obtain rfl:q=p:=by omega
   have HG1:Hid (W0.grownBy wr (some blk)):=HG
   clear cw0
   obtain ⟨W1,rfl⟩:∃ x,x=wr:=⟨_,rfl⟩
   go_wp2
   go_loopw [11] (fun i wr=>∃ (k:Nat) (e:Array α),a≤k∧k + 1≤q∧i = .int .i64 k∧Hid (St wr e)∧Hid (Rotated a (a + 1) (k + 1) d e)∧Hid (PermIn a b d e)∧Hid (W0.grownBy wr (some blk))) (fun i _=>N - (intOf i).toNat)
   case atStart=>exact ⟨a,d,Nat.le_refl _,by omega,rfl,HS,rotated_none_right d,permIn_refl _ _ _,HG⟩
   case round=>
    obtain ⟨k,e,hak,hkq,rfl,HS4,HR4,HP4,HG4⟩:=hrel
    have cw1:wr.cell? ⟨w.heap.size,1,none⟩=some (.func (.func sf) #[] sb):=grown_cell HG4.out (by omega) c1
    by_cases hkl:k + 1 < q
    ·have hes:=S.size wr e HS4.out
     obtain ⟨W',hrun,hst,hgr⟩:=S.swap wr e k (k + 1) HS4.out (by omega) (by omega) (by omega)
     rw [show ((k + 1:Nat):Int)=(k:Int) + 1 from rfl] at hrun
     have HS5:Hid (St W' (swp e k (k + 1))):=hst
     have HR5:Hid (Rotated a (a + 1) (k + 2) d (swp e k (k + 1))):=rot_right_step HR4.out hak (by omega)
     have HP5:Hid (PermIn a b d (swp e k (k + 1))):=permIn_trans _ _ _ _ _ HP4.out (swp_permIn e a b k (k + 1) (by omega) (by omega) (by omega) (by omega) (by omega))
     have HG5:Hid (W0.grownBy W' (some blk)):=grown_then HG4.out hgr
     have z1:(k:Int) < (q:Int) - 1:=by omega
     clear hst hgr
     go_wp2
     go_roundw
     case rel=>exact ⟨k + 1,_,by omega,by omega,by go_num,HS5,HR5,HP5,HG5⟩
     case measure=>simp [intOf];omega
    ·have z1:¬ (k:Int) < (q:Int) - 1:=by omega
     have z2:decide ((k:Int) < (q:Int) - 1)=false:=by simpa using z1
     obtain rfl:q=k + 1:=by omega
     go_wp2
     refine bodyPost_ret (results_none rfl _ _ _) rfl ?_
     exact ⟨rfl,e,HS4.out,one_right hO HS2.out (by omega) (by omega) HR4.out K1.out K2.out,HP4.out,grown_then (grown_below hB0) HG4.out⟩
set_option maxRecDepth 20000 in
set_option maxHeartbeats 4000000 in
theorem merge_one_left (S:Sorts lt g lb sf sb blk N St) (hO:SWO lt) (d:Array α) (w:World) (h:St w d) (a m b:Nat) (hm:b=m + 1) (h2:a + 1 < m) (h3:b≤N) (hN:N≤1000000) (hs2:SortedIn lt a m d) :
  Calls Tryz.prog 169 #[dV g lb sf sb,.int .i64 a,.int .i64 m,.int .i64 b] w fun e w'=>e = .returned (.tuple #[])∧∃ d',St w' d'∧SortedIn lt a b d'∧PermIn a b d d'∧w.grownBy w' (some blk):=by
 have hbl:=S.blt w d h
 have hsz:=S.size w d h
 unfold dV
 obtain ⟨W0,hW0⟩:∃ W,W=w.alloc (.cells #[.func (.func g) #[] lb,.func (.func sf) #[] sb] 205):=⟨_,rfl⟩
 have hB0:Below w.heap.size w W0:=by rw [hW0];exact (Below.refl _ _).alloc (Nat.le_refl _) _
 have c0:W0.cell? ⟨w.heap.size,0,none⟩=some (.func (.func g) #[] lb):=by rw [hW0];simp
 have c1:W0.cell? ⟨w.heap.size,1,none⟩=some (.func (.func sf) #[] sb):=by rw [hW0];simp
 have HS0:Hid (St W0 d):=S.below _ _ _ h hB0
 have HW0:Hid (W0=_):=hW0
 have HS2:Hid (SortedIn lt a m d):=hs2
 have eg:=S.eg
 clear hW0 hs2
 go_enter Tryz.func169,Tryz.ntmps169
 have z0:¬ (m:Int) - (a:Int)=1:=by omega
 have z0b:((m:Int) - (a:Int) == 1)=false:=by simpa using z0
 have z3:(b:Int) - (m:Int)=1:=by omega
 have HM:Hid (b=m + 1):=hm
 clear hm
 go_wp2
 rw [← HW0.out]
 go_loopw [12,13] (fun i j wr=>∃ (p q:Nat),a≤p∧p≤q∧q≤m∧i = .int .i64 p∧j = .int .i64 q∧Hid (a < p→lt d[m]! d[p - 1]! = false)∧Hid (q < m→lt d[m]! d[q]! = true)∧Hid (St wr d)∧Hid (W0.grownBy wr (some blk))) (fun i j _=>(intOf j).toNat - (intOf i).toNat)
 case atStart=>exact ⟨a,m,Nat.le_refl _,by omega,Nat.le_refl _,rfl,rfl,fun h=>absurd h (Nat.lt_irrefl _),fun h=>absurd h (Nat.lt_irrefl _),HS0,grown_refl _ _⟩
 case round=>
  obtain ⟨p,q,hp,hpq,hqb,rfl,rfl,K1,K2,HS,HG⟩:=hrel
  have cw0:wr.cell? ⟨w.heap.size,0,none⟩=some (.func (.func g) #[] lb):=grown_cell HG.out (by omega) c0
  by_cases hlt:p < q
  ·have hl:=S.less wr d m ((p + q) / 2) HS.out (by omega) (by omega)
   rw [show (((p + q) / 2:Nat):Int)=((p:Int) + q) / 2 by omega] at hl
   generalize hlv:lt d[m]! d[(p + q) / 2]! = lv at hl
   have HLV:Hid (lt d[m]! d[(p + q) / 2]! = lv):=hlv
   clear hlv
   go_wp2_with fail
   refine hl.mono ?_
   rintro e3 w2 ⟨rfl,hb2⟩
   have HS3:Hid (St w2 d):=S.below _ _ _ HS.out hb2
   have HG3:Hid (W0.grownBy w2 (some blk)):=grown_then HG.out (grown_below hb2)
   clear hl cw0
   cases lv with
   | false=>
    go_wp2
    go_roundw
    case rel=>exact ⟨(p + q) / 2 + 1,q,by omega,by omega,hqb,by rw [show ((p:Int) + (q:Int)) / 2 + 1=(((p + q) / 2 + 1:Nat):Int) by omega],rfl,fun _=>HLV.out,K2,HS3,HG3⟩
    case measure=>simp [intOf];omega
   | true=>
    go_wp2
    go_roundw
    case rel=>exact ⟨p,(p + q) / 2,by omega,by omega,by omega,rfl,by rw [show ((p:Int) + (q:Int)) / 2=(((p + q) / 2:Nat):Int) by omega],K1,fun _=>HLV.out,HS3,HG3⟩
    case measure=>simp [intOf];omega
  ·obtain rfl:q=p:=by omega
   have HG1:Hid (W0.grownBy wr (some blk)):=HG
   clear cw0
   obtain ⟨W1,rfl⟩:∃ x,x=wr:=⟨_,rfl⟩
   go_wp2
   go_loopw [15] (fun i wr=>∃ (k:Nat) (e:Array α),q≤k∧k≤m∧i = .int .i64 k∧Hid (St wr e)∧Hid (Rotated k m (m + 1) d e)∧Hid (PermIn a b d e)∧Hid (W0.grownBy wr (some blk))) (fun i _=>(intOf i).toNat)
   case atStart=>exact ⟨m,d,by omega,Nat.le_refl _,rfl,HS,rotated_none_left d,permIn_refl _ _ _,HG⟩
   case round=>
    obtain ⟨k,e,hqk,hkm,rfl,HS4,HR4,HP4,HG4⟩:=hrel
    have cw1:wr.cell? ⟨w.heap.size,1,none⟩=some (.func (.func sf) #[] sb):=grown_cell HG4.out (by omega) c1
    by_cases hkl:q < k
    ·obtain ⟨k,rfl⟩:∃ i,k=i + 1:=⟨k - 1,by omega⟩
     have hes:=S.size wr e HS4.out
     obtain ⟨W',hrun,hst,hgr⟩:=S.swap wr e (k + 1) k HS4.out (by omega) (by omega) (by omega)
     rw [show ((k + 1:Nat):Int)=(k:Int) + 1 from rfl] at hrun
     have HS5:Hid (St W' (swp e (k + 1) k)):=hst
     have HR5:Hid (Rotated k m (m + 1) d (swp e (k + 1) k)):=rot_left_step HR4.out (by omega) (by omega)
     have HP5:Hid (PermIn a b d (swp e (k + 1) k)):=permIn_trans _ _ _ _ _ HP4.out (swp_permIn e a b (k + 1) k (by omega) (by omega) (by omega) (by omega) (by omega))
     have HG5:Hid (W0.grownBy W' (some blk)):=grown_then HG4.out hgr
     have z1:(q:Int) < (k:Int) + 1:=by omega
     clear hst hgr
     go_wp2
     go_roundw
     case rel=>exact ⟨k,_,by omega,by omega,by go_num,HS5,HR5,HP5,HG5⟩
     case measure=>simp [intOf] <;> omega
    ·obtain rfl:q=k:=by omega
     go_wp2
     refine bodyPost_ret (results_none rfl _ _ _) rfl ?_
     exact ⟨rfl,e,HS4.out,by rw [HM.out];exact one_left hO HS2.out (by omega) (by omega) HR4.out K1.out K2.out,HP4.out,grown_then (grown_below hB0) HG4.out⟩
end
end Go.Proofs.YtdkhohlhdiekmaaGreatDoor
namespace Go.Proofs.YtdkhohlhdiekmaaGreatDoor
open Go.RowKit
open Go.Sort hiding Below
open Go.Shelf
variable {α:Type} [Inhabited α]
section
variable {lt:α→α→Bool} {q:α→α→Prop}
variable {g:Nat} {lb:Array Value} {sf:Nat} {sb:Array Value} {blk N:Nat} {St:World→Array α→Prop}
set_option maxRecDepth 20000 in
set_option maxHeartbeats 4000000 in
theorem sb_merge_one_right (S:SortsQ lt q g lb sf sb blk N St) (hO:SWO lt) (d:Array α) (w:World) (h:St w d) (a m b:Nat) (hm:m=a + 1) (h2:m < b) (h3:b≤N) (hN:N≤1000000) (hs2:SortedIn lt (a + 1) b d) (hap:Ap q a m b d) :
  Calls Tryz.prog 169 #[dV g lb sf sb,.int .i64 a,.int .i64 m,.int .i64 b] w fun e w'=>e = .returned (.tuple #[])∧∃ d',St w' d'∧SortedIn lt a b d'∧PermIn a b d d'∧w.grownBy w' (some blk):=by
 have hbl:=S.blt w d h
 have hsz:=S.size w d h
 unfold dV
 obtain ⟨W0,hW0⟩:∃ W,W=w.alloc (.cells #[.func (.func g) #[] lb,.func (.func sf) #[] sb] 205):=⟨_,rfl⟩
 have hB0:Below w.heap.size w W0:=by rw [hW0];exact (Below.refl _ _).alloc (Nat.le_refl _) _
 have c0:W0.cell? ⟨w.heap.size,0,none⟩=some (.func (.func g) #[] lb):=by rw [hW0];simp
 have c1:W0.cell? ⟨w.heap.size,1,none⟩=some (.func (.func sf) #[] sb):=by rw [hW0];simp
 have HS0:Hid (St W0 d):=S.below _ _ _ h hB0
 have HW0:Hid (W0=_):=hW0
 have HS2:Hid (SortedIn lt (a + 1) b d):=hs2
 have eg:=S.eg
 have HAP:Hid (Ap q a m b d):=hap
 clear hW0 hs2 hap
 go_enter Tryz.func169,Tryz.ntmps169
 have z0:(m:Int) - (a:Int)=1:=by omega
 have HM:Hid (m=a + 1):=hm
 clear hm
 go_wp2
 rw [← HW0.out]
 go_loopw [8,9] (fun i j wr=>∃ (p z:Nat),a + 1≤p∧p≤z∧z≤b∧i = .int .i64 p∧j = .int .i64 z∧Hid (a + 1 < p→lt d[p - 1]! d[a]! = true)∧Hid (z < b→lt d[z]! d[a]! = false)∧Hid (St wr d)∧Hid (W0.grownBy wr (some blk))) (fun i j _=>(intOf j).toNat - (intOf i).toNat)
 case atStart=>exact ⟨m,b,by omega,by omega,Nat.le_refl _,rfl,rfl,fun h=>absurd h (by omega),fun h=>absurd h (Nat.lt_irrefl _),HS0,grown_refl _ _⟩
 case round=>
  obtain ⟨p,z,hp,hpq,hqb,rfl,rfl,K1,K2,HS,HG⟩:=hrel
  have cw0:wr.cell? ⟨w.heap.size,0,none⟩=some (.func (.func g) #[] lb):=grown_cell HG.out (by omega) c0
  by_cases hlt:p < z
  ·have hl:=S.less wr d ((p + z) / 2) a HS.out (by omega) (by have:=HM.out;omega) (HAP.out a ((p + z) / 2) (Nat.le_refl _) (by omega) (by omega) (by omega))
   rw [show (((p + z) / 2:Nat):Int)=((p:Int) + z) / 2 by omega] at hl
   generalize hlv:lt d[(p + z) / 2]! d[a]! = lv at hl
   have HLV:Hid (lt d[(p + z) / 2]! d[a]! = lv):=hlv
   clear hlv
   go_wp2_with fail
   refine hl.mono ?_
   rintro e3 w2 ⟨rfl,hb2⟩
   have HS3:Hid (St w2 d):=S.below _ _ _ HS.out hb2
   have HG3:Hid (W0.grownBy w2 (some blk)):=grown_then HG.out (grown_below hb2)
   clear hl cw0
   cases lv with
   | true=>
    go_wp2
    go_roundw
    case rel=>exact ⟨(p + z) / 2 + 1,z,by omega,by omega,hqb,by rw [show ((p:Int) + (z:Int)) / 2 + 1=(((p + z) / 2 + 1:Nat):Int) by omega],rfl,fun _=>HLV.out,K2,HS3,HG3⟩
    case measure=>simp [intOf];omega
   | false=>
    go_wp2
    go_roundw
    case rel=>exact ⟨p,(p + z) / 2,by omega,by omega,by omega,rfl,by rw [show ((p:Int) + (z:Int)) / 2=(((p + z) / 2:Nat):Int) by omega],K1,fun _=>HLV.out,HS3,HG3⟩
    case measure=>simp [intOf];omega
  ·obtain rfl:z=p:=by omega
   have HG1:Hid (W0.grownBy wr (some blk)):=HG
   clear cw0
   obtain ⟨W1,rfl⟩:∃ x,x=wr:=⟨_,rfl⟩
   go_wp2
   go_loopw [11] (fun i wr=>∃ (k:Nat) (e:Array α),a≤k∧k + 1≤z∧i = .int .i64 k∧Hid (St wr e)∧Hid (Rotated a (a + 1) (k + 1) d e)∧Hid (PermIn a b d e)∧Hid (W0.grownBy wr (some blk))) (fun i _=>N - (intOf i).toNat)
   case atStart=>exact ⟨a,d,Nat.le_refl _,by omega,rfl,HS,rotated_none_right d,permIn_refl _ _ _,HG⟩
   case round=>
    obtain ⟨k,e,hak,hkq,rfl,HS4,HR4,HP4,HG4⟩:=hrel
    have cw1:wr.cell? ⟨w.heap.size,1,none⟩=some (.func (.func sf) #[] sb):=grown_cell HG4.out (by omega) c1
    by_cases hkl:k + 1 < z
    ·have hes:=S.size wr e HS4.out
     obtain ⟨W',hrun,hst,hgr⟩:=S.swap wr e k (k + 1) HS4.out (by omega) (by omega) (by omega)
     rw [show ((k + 1:Nat):Int)=(k:Int) + 1 from rfl] at hrun
     have HS5:Hid (St W' (swp e k (k + 1))):=hst
     have HR5:Hid (Rotated a (a + 1) (k + 2) d (swp e k (k + 1))):=rot_right_step HR4.out hak (by omega)
     have HP5:Hid (PermIn a b d (swp e k (k + 1))):=permIn_trans _ _ _ _ _ HP4.out (swp_permIn e a b k (k + 1) (by omega) (by omega) (by omega) (by omega) (by omega))
     have HG5:Hid (W0.grownBy W' (some blk)):=grown_then HG4.out hgr
     have z1:(k:Int) < (z:Int) - 1:=by omega
     clear hst hgr
     go_wp2
     go_roundw
     case rel=>exact ⟨k + 1,_,by omega,by omega,by go_num,HS5,HR5,HP5,HG5⟩
     case measure=>simp [intOf];omega
    ·have z1:¬ (k:Int) < (z:Int) - 1:=by omega
     have z2:decide ((k:Int) < (z:Int) - 1)=false:=by simpa using z1
     obtain rfl:z=k + 1:=by omega
     go_wp2
     refine bodyPost_ret (results_none rfl _ _ _) rfl ?_
     exact ⟨rfl,e,HS4.out,one_right hO HS2.out (by omega) (by omega) HR4.out K1.out K2.out,HP4.out,grown_then (grown_below hB0) HG4.out⟩
set_option maxRecDepth 20000 in
set_option maxHeartbeats 4000000 in
theorem sb_merge_one_left (S:SortsQ lt q g lb sf sb blk N St) (hO:SWO lt) (d:Array α) (w:World) (h:St w d) (a m b:Nat) (hm:b=m + 1) (h2:a + 1 < m) (h3:b≤N) (hN:N≤1000000) (hs2:SortedIn lt a m d) (hap:Ap q a m b d) :
  Calls Tryz.prog 169 #[dV g lb sf sb,.int .i64 a,.int .i64 m,.int .i64 b] w fun e w'=>e = .returned (.tuple #[])∧∃ d',St w' d'∧SortedIn lt a b d'∧PermIn a b d d'∧w.grownBy w' (some blk):=by
 have hbl:=S.blt w d h
 have hsz:=S.size w d h
 unfold dV
 obtain ⟨W0,hW0⟩:∃ W,W=w.alloc (.cells #[.func (.func g) #[] lb,.func (.func sf) #[] sb] 205):=⟨_,rfl⟩
 have hB0:Below w.heap.size w W0:=by rw [hW0];exact (Below.refl _ _).alloc (Nat.le_refl _) _
 have c0:W0.cell? ⟨w.heap.size,0,none⟩=some (.func (.func g) #[] lb):=by rw [hW0];simp
 have c1:W0.cell? ⟨w.heap.size,1,none⟩=some (.func (.func sf) #[] sb):=by rw [hW0];simp
 have HS0:Hid (St W0 d):=S.below _ _ _ h hB0
 have HW0:Hid (W0=_):=hW0
 have HS2:Hid (SortedIn lt a m d):=hs2
 have eg:=S.eg
 have HAP:Hid (Ap q a m b d):=hap
 clear hW0 hs2 hap
 go_enter Tryz.func169,Tryz.ntmps169
 have z0:¬ (m:Int) - (a:Int)=1:=by omega
 have z0b:((m:Int) - (a:Int) == 1)=false:=by simpa using z0
 have z3:(b:Int) - (m:Int)=1:=by omega
 have HM:Hid (b=m + 1):=hm
 clear hm
 go_wp2
 rw [← HW0.out]
 go_loopw [12,13] (fun i j wr=>∃ (p z:Nat),a≤p∧p≤z∧z≤m∧i = .int .i64 p∧j = .int .i64 z∧Hid (a < p→lt d[m]! d[p - 1]! = false)∧Hid (z < m→lt d[m]! d[z]! = true)∧Hid (St wr d)∧Hid (W0.grownBy wr (some blk))) (fun i j _=>(intOf j).toNat - (intOf i).toNat)
 case atStart=>exact ⟨a,m,Nat.le_refl _,by omega,Nat.le_refl _,rfl,rfl,fun h=>absurd h (Nat.lt_irrefl _),fun h=>absurd h (Nat.lt_irrefl _),HS0,grown_refl _ _⟩
 case round=>
  obtain ⟨p,z,hp,hpq,hqb,rfl,rfl,K1,K2,HS,HG⟩:=hrel
  have cw0:wr.cell? ⟨w.heap.size,0,none⟩=some (.func (.func g) #[] lb):=grown_cell HG.out (by omega) c0
  by_cases hlt:p < z
  ·have hl:=S.less wr d m ((p + z) / 2) HS.out (by omega) (by omega) (HAP.out ((p + z) / 2) m (by omega) (by omega) (Nat.le_refl _) (by omega))
   rw [show (((p + z) / 2:Nat):Int)=((p:Int) + z) / 2 by omega] at hl
   generalize hlv:lt d[m]! d[(p + z) / 2]! = lv at hl
   have HLV:Hid (lt d[m]! d[(p + z) / 2]! = lv):=hlv
   clear hlv
   go_wp2_with fail
   refine hl.mono ?_
   rintro e3 w2 ⟨rfl,hb2⟩
   have HS3:Hid (St w2 d):=S.below _ _ _ HS.out hb2
   have HG3:Hid (W0.grownBy w2 (some blk)):=grown_then HG.out (grown_below hb2)
   clear hl cw0
   cases lv with
   | false=>
    go_wp2
    go_roundw
    case rel=>exact ⟨(p + z) / 2 + 1,z,by omega,by omega,hqb,by rw [show ((p:Int) + (z:Int)) / 2 + 1=(((p + z) / 2 + 1:Nat):Int) by omega],rfl,fun _=>HLV.out,K2,HS3,HG3⟩
    case measure=>simp [intOf];omega
   | true=>
    go_wp2
    go_roundw
    case rel=>exact ⟨p,(p + z) / 2,by omega,by omega,by omega,rfl,by rw [show ((p:Int) + (z:Int)) / 2=(((p + z) / 2:Nat):Int) by omega],K1,fun _=>HLV.out,HS3,HG3⟩
    case measure=>simp [intOf];omega
  ·obtain rfl:z=p:=by omega
   have HG1:Hid (W0.grownBy wr (some blk)):=HG
   clear cw0
   obtain ⟨W1,rfl⟩:∃ x,x=wr:=⟨_,rfl⟩
   go_wp2
   go_loopw [15] (fun i wr=>∃ (k:Nat) (e:Array α),z≤k∧k≤m∧i = .int .i64 k∧Hid (St wr e)∧Hid (Rotated k m (m + 1) d e)∧Hid (PermIn a b d e)∧Hid (W0.grownBy wr (some blk))) (fun i _=>(intOf i).toNat)
   case atStart=>exact ⟨m,d,by omega,Nat.le_refl _,rfl,HS,rotated_none_left d,permIn_refl _ _ _,HG⟩
   case round=>
    obtain ⟨k,e,hqk,hkm,rfl,HS4,HR4,HP4,HG4⟩:=hrel
    have cw1:wr.cell? ⟨w.heap.size,1,none⟩=some (.func (.func sf) #[] sb):=grown_cell HG4.out (by omega) c1
    by_cases hkl:z < k
    ·obtain ⟨k,rfl⟩:∃ i,k=i + 1:=⟨k - 1,by omega⟩
     have hes:=S.size wr e HS4.out
     obtain ⟨W',hrun,hst,hgr⟩:=S.swap wr e (k + 1) k HS4.out (by omega) (by omega) (by omega)
     rw [show ((k + 1:Nat):Int)=(k:Int) + 1 from rfl] at hrun
     have HS5:Hid (St W' (swp e (k + 1) k)):=hst
     have HR5:Hid (Rotated k m (m + 1) d (swp e (k + 1) k)):=rot_left_step HR4.out (by omega) (by omega)
     have HP5:Hid (PermIn a b d (swp e (k + 1) k)):=permIn_trans _ _ _ _ _ HP4.out (swp_permIn e a b (k + 1) k (by omega) (by omega) (by omega) (by omega) (by omega))
     have HG5:Hid (W0.grownBy W' (some blk)):=grown_then HG4.out hgr
     have z1:(z:Int) < (k:Int) + 1:=by omega
     clear hst hgr
     go_wp2
     go_roundw
     case rel=>exact ⟨k,_,by omega,by omega,by go_num,HS5,HR5,HP5,HG5⟩
     case measure=>simp [intOf] <;> omega
    ·obtain rfl:z=k:=by omega
     go_wp2
     refine bodyPost_ret (results_none rfl _ _ _) rfl ?_
     exact ⟨rfl,e,HS4.out,by rw [HM.out];exact one_left hO HS2.out (by omega) (by omega) HR4.out K1.out K2.out,HP4.out,grown_then (grown_below hB0) HG4.out⟩
end
end Go.Proofs.YtdkhohlhdiekmaaGreatDoor
