/-  -/
import Derived.Test.YtdkhohlhdiekmaaGreatDoorCoTake
import Derived.Test.YtdkhohlhdiekmaaGreatDoorBnE
import Derived.Test.YtdkhohlhdiekmaaGreatDoorBnA
import Derived.Test.YtdkhohlhdiekmaaGreatDoorBnD
import Derived.Test.YtdkhohlhdiekmaaGreatDoorBnShelf
import Derived.Lib.LaidTab
import Derived.WalkSmall
import Derived.Test.YtdkhohlhdiekmaaGreatDoorBnMon
import Derived.Laws.RangeString
import Derived.Lib.AppendIntMem
namespace Go.Proofs.YtdkhohlhdiekmaaGreatDoor
def few (n q:Int):Int:=if n < q then n else q
def tkStep (r:List Lay × Int × Int) (y:Lay):List Lay × Int × Int:=
 (if few r.2.2 y.qty < y.qty then r.1 ++ [⟨y.id,y.qty - few r.2.2 y.qty,y.val - y.val * few r.2.2 y.qty / y.qty⟩] else r.1,r.2.1 + y.val * few r.2.2 y.qty / y.qty,r.2.2 - few r.2.2 y.qty)
def tkR (r:List Lay × Int × Int) (ys:List Lay):List Lay × Int × Int:=ys.foldl tkStep r
theorem tkR_snoc (r:List Lay × Int × Int) (ys:List Lay) (k:Nat) (hk:k < ys.length):tkR r (ys.take (k + 1))=tkStep (tkR r (ys.take k)) ys[k]:=by
 rw [List.take_succ_eq_append_getElem hk]
 unfold tkR
 rw [List.foldl_append]
 rfl
theorem tkR_is:∀ (ys:List Lay) (a:List Lay) (v n:Int),(∀ y ∈ ys,LayOK y)→0≤n→tkR (a,v,n) ys=(a ++ (tk ys n).1,v + (tk ys n).2.1,(tk ys n).2.2)
 | [],a,v,n,_,_=>by simp [tkR,tk]
 | y :: ys,a,v,n,ok,hn=>by
  have hy:=ok y (List.mem_cons_self ..)
  unfold LayOK at hy
  have ih:=fun a v n=>tkR_is ys a v n (fun z hz=>ok z (List.mem_cons_of_mem _ hz))
  show tkR (tkStep (a,v,n) y) ys=_
  by_cases h0:n≤0
  ·have e:n=0:=by omega
   subst e
   have hs:tkStep (a,v,0) y=(a ++ [y],v,0):=by
    unfold tkStep few
    rw [if_pos (by omega:(0:Int) < y.qty),if_pos (by omega:(0:Int) < y.qty)]
    simp
   rw [hs,ih _ _ _ (Int.le_refl _),tk_done ys 0 (Or.inl (Int.le_refl _)),tk_done (y :: ys) 0 (Or.inl (Int.le_refl _))]
   simp
  ·by_cases hq:n < y.qty
   ·have hs:tkStep (a,v,n) y=(a ++ [⟨y.id,y.qty - n,y.val - y.val * n / y.qty⟩],v + y.val * n / y.qty,0):=by
     unfold tkStep few
     simp only [hq,if_true,Int.sub_self]
    rw [hs,ih _ _ _ (Int.le_refl _),tk_done ys 0 (Or.inl (Int.le_refl _)),tk_part y ys n (by omega) hq]
    simp
   ·have hd:y.val * y.qty / y.qty=y.val:=Int.mul_ediv_cancel _ (by omega)
    have hs:tkStep (a,v,n) y=(a,v + y.val,n - y.qty):=by
     unfold tkStep few
     simp only [hq,if_false,Int.lt_irrefl,hd]
    rw [hs,ih _ _ _ (by omega),tk_whole y ys n (by omega) hq]
    simp only [Int.add_assoc]
end Go.Proofs.YtdkhohlhdiekmaaGreatDoor
namespace Go.Proofs.YtdkhohlhdiekmaaGreatDoor
open Go.RowKit Go.Maps
structure RLay (B:Nat) (W:World) (mb n:Nat) (D:DataW Value) (V:ByteArray→Value) (M:ByteArray→List Lay):Prop where
 map:W.ownsMap Tryz.prog 9 heldE mb n D
 at_:∀ x,D.atKey (keyB x) (.held (.slice none 0 0)) = .held (V x)
 lay:∀ x,LayAt W (V x) (M x)
 ge:∀ x k,(V x).ownBlock=some k→B≤k∧k ≠ mb
 ne:∀ x y,x ≠ y→∀ k,(V x).ownBlock=some k→(V y).ownBlock ≠ some k
theorem RLay.kept {B:Nat} {W W':World} {mb n:Nat} {D:DataW Value} {V:ByteArray→Value} {M:ByteArray→List Lay} (h:RLay B W mb n D V M) (hm:W'.heap[mb]?=W.heap[mb]?) (hv:∀ x k,(V x).ownBlock=some k→W'.heap[k]?=W.heap[k]?):RLay B W' mb n D V M:=
 ⟨map_same h.map hm,h.at_,fun x=>(h.lay x).kept (hv x),h.ge,h.ne⟩
theorem RLay.below {B:Nat} {W W':World} {mb n:Nat} {D:DataW Value} {V:ByteArray→Value} {M:ByteArray→List Lay} (h:RLay B W mb n D V M) (hb:Below W.heap.size W W'):RLay B W' mb n D V M:=
 h.kept (hb.block _ h.map.lt) fun x k hk=>hb.block k ((h.lay x).lt hk)
theorem zero_layR (w:World):(zeroValue 297).run Tryz.prog w = .ok (.slice none 0 0) w:=by kernel_rfl
theorem RLay.look {B:Nat} {W:World} {mb n:Nat} {D:DataW Value} {V:ByteArray→Value} {M:ByteArray→List Lay} (h:RLay B W mb n D V M) (x:ByteArray) (hx:x.size≤maxLen) :
  (Instr.lookup 262 (.map (some mb)) (.string x) false).run Tryz.prog W = .ok (V x) W:=by
 obtain ⟨v,ps,h1,h2⟩:=h.map.lookup law_strT Tryz.underlying262 (zero_layR W) (zd:=.held (.slice none 0 0)) (zp:=[]) rfl (key_str x hx)
 have h3:=heldE_inv h2
 rw [h.at_ x] at h3
 rw [h1,← held_inj h3]
set_option maxHeartbeats 2000000 in
theorem refSum_any {B:Nat} {W:World} {mb n:Nat} {D:DataW Value} {V:ByteArray→Value} {M:ByteArray→List Lay} (h:RLay B W mb n D V M) (u:Value) (x:ByteArray) (hx:x.size≤maxLen) (hok:∀ y ∈ M x,LayOK y) (hq:sumQ (M x)≤1000000000) (hv:sumV (M x)≤4000000000000000000) (hl:(M x).length≤1000000) (hu:∃ ad n c,u = .slice ad n c) :
  Calls Tryz.prog 215 #[.agg #[u,.map (some mb)],.string x] W fun e w'=>e = .returned (.tuple #[.int .i64 (sumQ (M x)),.int .i64 (sumV (M x))])∧Below W.heap.size W w':=by
 obtain ⟨ad,nu,cu,rfl⟩:=hu
 obtain ⟨W0,hW0⟩:∃ w',w'=W.alloc (.cells #[.slice ad nu cu,.map (some mb)] 264):=⟨_,rfl⟩
 have hB0:Below W.heap.size W W0:=by rw [hW0];exact (Below.refl _ _).alloc (Nat.le_refl _) _
 have h1:=(h.below hB0).look x hx
 have h2:=(h.below hB0).lay x
 obtain ⟨ys,hys⟩:∃ ys,ys=M x:=⟨_,rfl⟩
 rw [← hys] at h2 hok hq hv hl
 rw [← hys]
 obtain ⟨ad2,n2,cp2,hv2⟩:=h2.slice
 rw [hv2] at h1 h2
 have hn2:=h2.nilOf
 subst hn2
 have HW0:Hid (W0=_):=hW0
 rw [hW0] at h1
 clear hys hv2 h
 rcases h2.form with ⟨e,rfl⟩ | ⟨g,o,cap,e,hg,hc1,hc2⟩
 ·simp only [Value.slice.injEq] at e
  obtain ⟨rfl,_,rfl⟩:=e
  have HB:Hid (Below W.heap.size W W0):=hB0
  clear h2 hB0 hW0
  simp only [List.length_nil] at h1
  go_enter Tryz.func215,Tryz.ntmps215
  go_wp2
  refine wp_loop_rounds 1 ?_
  rw [rounds_succ]
  go_wp2
  go_ret2
  exact ⟨rfl,by rw [← HW0.out];exact HB.out⟩
 ·simp only [Value.slice.injEq] at e
  obtain ⟨rfl,_,rfl⟩:=e
  clear hW0
  go_enter Tryz.func215,Tryz.ntmps215
  go_wp2_with fail
  rw [← HW0.out]
  clear h1
  go_loopw [4,5,13] (fun q s i wr=>∃ k:Nat,k≤ys.length∧i = .int .i64 k∧q = .int .i64 (sumQ (ys.take k))∧s = .int .i64 (sumV (ys.take k))∧Below W0.heap.size W0 wr) (fun _ _ i _=>ys.length - (intOf i).toNat)
  case atStart=>exact ⟨0,Nat.zero_le _,rfl,rfl,rfl,Below.refl _ _⟩
  case round=>
   obtain ⟨k,hk,rfl,rfl,rfl,hb⟩:=hrel
   by_cases hlt:k < ys.length
   ·have hc:=fun j hj=>((h2.below hb).cell k j hlt hj).1
    have c0:=hc 0 (by omega)
    have c1:=hc 1 (by omega)
    have c2:=hc 2 (by omega)
    have st:=sum_take hok k
    have st1:=sum_take hok (k + 1)
    have sn:=sum_snoc ys k hlt
    have SN:Hid (sumQ (ys.take (k + 1))=sumQ (ys.take k) + ys[k].qty∧sumV (ys.take (k + 1))=sumV (ys.take k) + ys[k].val):=sn
    have ok:=hok ys[k] (List.getElem_mem hlt)
    rw [sn.1,sn.2] at st1
    clear sn hc
    generalize ys[k]=y at c0 c1 c2 st1 SN ok
    obtain ⟨id,qty,val⟩:=y
    unfold LayOK at ok
    simp only [layC,List.getElem?_cons_zero,List.getElem?_cons_succ,Nat.add_zero] at c0 c1 c2 st1 SN ok
    go_wp2
    go_roundw
    case rel=>exact ⟨k + 1,by omega,by go_num,by rw [SN.out.1],by rw [SN.out.2],hb.alloc hb.size _⟩
    case measure=>simp [intOf];omega
   ·obtain rfl:k=ys.length:=by omega
    have e:ys.take ys.length=ys:=List.take_length
    go_wp2
    go_ret2
    exact ⟨by rw [e];rfl,hB0.trans (hb.mono hB0.size)⟩
end Go.Proofs.YtdkhohlhdiekmaaGreatDoor
namespace Go.Proofs.YtdkhohlhdiekmaaGreatDoor
open Go.RowKit
structure TabG (w:World):Prop where
 tab:Lib.TabIs Tryz.prog w "internal/strconv.uint64pow10" .u64 Lib.pow10Tab
theorem Tryz.gTabT:Tryz.prog.globalNamed "internal/strconv.uint64pow10" = some 4:=by kernel_rfl
theorem varT_lt {P:Program} {w:World} {n:String} {g:Nat} {cs:Array Value} (hg:P.globalNamed n=some g) (hv:w.var? P n=some cs):g < w.heap.size:=by
 unfold World.var? at hv
 simp only [hg,Option.bind_some] at hv
 rcases Nat.lt_or_ge g w.heap.size with h | h
 ·exact h
 ·simp [Array.getElem?_eq_none h] at hv
theorem TabG.below {w w':World} (h:TabG w) (hb:Below w.heap.size w w'):TabG w':=⟨var?_below hb Tryz.gTabT (varT_lt Tryz.gTabT h.tab) h.tab⟩
theorem below_iter {w w1:World} (hb:Below w.heap.size w w1) (s:ByteArray) (k:Nat):Below w.heap.size w (w1.iter s k):=hb.alloc hb.size _
set_option maxHeartbeats 2000000 in
theorem mulDiv_any (a c:Int) (b:Nat) (w:World) (hg:TabG w) (ha:0≤a) (ha':a≤20000000000000) (hb:(b:Int)≤c) (hc:1≤c) (hc':c≤100000000) :
  Calls Tryz.prog 252 #[.int .i64 a,.int .i64 b,.int .i64 c] w fun e w'=>e = .returned (.int .i64 (shr a b c))∧Below w.heap.size w w':=by
 have HT:Hid (Lib.TabIs Tryz.prog w "internal/strconv.uint64pow10" .u64 Lib.pow10Tab):=hg.tab
 clear hg
 have hitoa:Lib.itoa (b:Int)=Lib.decDigits b:=by unfold Lib.itoa;rw [if_neg (by omega)];rfl
 obtain ⟨s,hs⟩:∃ s:ByteArray,s=⟨(Lib.decDigits b).toArray⟩:=⟨_,rfl⟩
 have hl:s.data.toList=Lib.decDigits b:=by rw [hs]
 have HD:Hid (∀ k (h:k < s.size),48≤(s[k]'h).toNat∧(s[k]'h).toNat≤57):=by
  intro k h
  refine decDigits_dig b b (Nat.le_refl _) _ ?_
  rw [← hl]
  exact List.getElem_mem (by simpa using h)
 have HV:Hid (val s.data.toList=(b:Int)):=by show _=_;rw [hl];exact val_decDigits b b (Nat.le_refl _)
 have HE:Hid (s=⟨(Lib.decDigits b).toArray⟩):=hs
 have HI:Hid (Lib.itoa (b:Int)=Lib.decDigits b):=hitoa
 clear hl hs hitoa
 go_enter Tryz.func252,Tryz.ntmps252
 go_wp2_with (go_at_call 51;refine (Tryz.strconv_Itoa (b:Int) (by omega) (by omega) _ HT.out).mono ?_;rintro e w1 ⟨rfl,n1,os1,hw1⟩;rw [HI.out,← HE.out];have hb1:Below w.heap.size w w1:=hw1 ▸ Lib.below_grow _ _ (Nat.le_refl _) _ _;clear hw1)
 clear HI HE HT
 go_loopw [7,8] (fun q r wr=>∃ k:Nat,k≤s.size∧wr=w1.iter s k∧q = .int .i64 (a * val (s.data.toList.take k) / c)∧r = .int .i64 (a * val (s.data.toList.take k) % c)) (fun _ _ wr=>s.size - wr.iterPos w1.heap.size)
 case atStart=>exact ⟨0,Nat.zero_le _,rfl,by simp [val],by simp [val]⟩
 case round=>
  obtain ⟨k,hk,rfl,rfl,rfl⟩:=hrel
  have hpos:∀ j,(w1.iter s j).iterPos w1.heap.size=j:=fun j=>iterPos_of (w1.iter_heap s j)
  have hv:=val_take_le s.data.toList k
  rw [HV.out] at hv
  by_cases hlt:k < s.size
  ·have hd:=HD.out k hlt
   have HS:Hid (val (s.data.toList.take (k + 1))=val (s.data.toList.take k) * 10 + ((s[k].toNat:Int) - 48)):=by
    show _=_
    rw [take_snoc s k hlt,val_snoc,val1_digit _ _ hd]
   have hnx:=fun ty=>run_next_ascii (P:=Tryz.prog) w1 s k ty hlt (by omega)
   have x0:(48:Int)≤(s[k].toNat:Int):=by omega
   have x1:(s[k].toNat:Int)≤57:=by omega
   generalize (s[k].toNat:Int)=x at hnx HS x0 x1
   generalize val (s.data.toList.take k)=P at hv HS
   have st:=step_quo a P (x - 48) c (by omega)
   have HQ:Hid (a * P / c * 10 + a * (x - 48) / c + (a * P % c * 10 + a * (x - 48) % c) / c=a * (P * 10 + (x - 48)) / c):=st.1
   have HR:Hid ((a * P % c * 10 + a * (x - 48) % c) % c=a * (P * 10 + (x - 48)) % c):=st.2
   have q0:0≤a * P / c:=shr_nonneg a P c ha hv.1 (by omega)
   have q1:a * P / c≤a:=shr_le a P c ha (by omega) (by omega)
   have r0:0≤a * P % c:=Int.emod_nonneg _ (by omega)
   have r1:a * P % c < c:=Int.emod_lt_of_pos _ (by omega)
   have k0:0≤a * (x - 48):=Int.mul_nonneg ha (by omega)
   have k1:a * (x - 48)≤20000000000000 * 9:=Int.mul_le_mul ha' (by omega) (by omega) (by omega)
   have k2:0≤a * (x - 48) / c:=Int.ediv_nonneg k0 (by omega)
   have k3:a * (x - 48) / c≤a * (x - 48):=Int.ediv_le_self _ k0
   have k4:0≤a * (x - 48) % c:=Int.emod_nonneg _ (by omega)
   have k5:a * (x - 48) % c < c:=Int.emod_lt_of_pos _ (by omega)
   have k6:0≤(a * P % c * 10 + a * (x - 48) % c) / c:=Int.ediv_nonneg (by omega) (by omega)
   have k7:(a * P % c * 10 + a * (x - 48) % c) / c≤a * P % c * 10 + a * (x - 48) % c:=Int.ediv_le_self _ (by omega)
   clear st hd
   go_wp2
   go_roundw
   case rel=>exact ⟨k + 1,by omega,rfl,by rw [HS.out,← HQ.out],by rw [HS.out,← HR.out]⟩
   case measure=>rw [hpos,hpos];omega
  ·have hnx:=fun ty=>run_next_end (P:=Tryz.prog) w1 s k ty hlt
   have ht:s.data.toList.take k=s.data.toList:=List.take_of_length_le (by simp;omega)
   rw [ht,HV.out]
   clear ht
   go_wp2
   go_ret
   exact ⟨rfl,below_iter hb1 s k⟩
set_option maxHeartbeats 1000000 in
theorem refPart_ok (t s v:Int) (w:World) (hg:TabG w) (ht:0≤t) (ht':t≤20000000000000) (hs:0≤s) (hsv:s≤v) (hv:1≤v) (hv':v≤100000) :
  Calls Tryz.prog 239 #[.int .i64 t,.int .i64 s,.int .i64 v] w fun e w'=>e = .returned (.tuple #[.int .i64 (shr t s v),.int .i64 0])∧Below w.heap.size w w':=by
 obtain ⟨n,rfl⟩:∃ n:Nat,s=(n:Int):=⟨s.toNat,by omega⟩
 have HG:Hid (TabG w):=hg
 clear hg
 go_enter Tryz.func239,Tryz.ntmps239
 go_wp2_with (first
  | (go_at_call 33;refine (in_yes _ _ _ _ (by omega) (by omega)).mono ?_;rintro e w' ⟨rfl,hw⟩;subst w')
  | (go_at_call 252;refine (mulDiv_any t v n _ HG.out ht ht' hsv hv (by omega)).mono ?_;rintro e w1 ⟨rfl,hb⟩))
 go_ret2
 exact ⟨rfl,hb⟩
end Go.Proofs.YtdkhohlhdiekmaaGreatDoor
namespace Go.Proofs.YtdkhohlhdiekmaaGreatDoor
open Go.RowKit Go.Maps
theorem tkR_took {ys:List Lay} (ok:∀ y ∈ ys,LayOK y) {q:Int} (hq:0≤q) (k:Nat):Took (ys.take k) q (tkR ([],0,q) (ys.take k)):=by
 have h:=tkR_is (ys.take k) [] 0 q (fun y hy=>ok y (List.mem_of_mem_take hy)) hq
 rw [List.nil_append,Int.zero_add] at h
 rw [h]
 exact tk_took _ _ (fun y hy=>ok y (List.mem_of_mem_take hy)) hq
theorem share_bd (val k q:Int) (hv:0≤val) (hk:0≤k) (hkq:k≤q) (hq:1≤q):0≤shr val k q∧shr val k q≤val:=by
 unfold shr
 refine ⟨Int.ediv_nonneg (Int.mul_nonneg hv hk) (by omega),?_⟩
 have h1:val * k≤val * q:=Int.mul_le_mul_of_nonneg_left hkq hv
 have h2:val * k / q≤val * q / q:=Int.ediv_le_ediv (by omega) h1
 rw [Int.mul_ediv_cancel _ (by omega)] at h2
 exact h2
theorem RLay.put {B:Nat} {W w1 w2:World} {mb n:Nat} {D:DataW Value} {V:ByteArray→Value} {M:ByteArray→List Lay} (h:RLay B W mb n D V M) (hBW:B≤W.heap.size) (hb:Below W.heap.size W w1) (x:ByteArray) (v:Value) (ys:List Lay)
  (hl:LayAt w1 v ys) (hf:∀ k,v.ownBlock=some k→W.heap.size≤k) (hm:w2.ownsMap Tryz.prog 9 heldE mb (n + 1) (D.put (keyB x) (.held v))) (hg:w1.grownBy w2 (some mb)) :
  RLay B w2 mb (n + 1) (D.put (keyB x) (.held v)) (fun z=>if z=x then v else V z) (fun z=>if z=x then ys else M z):=by
 have isM:IsMap D:=(h.map.canon law_strT).imp fun es ⟨e,_⟩=>e
 have hmb:mb < W.heap.size:=h.map.lt
 have vlt:∀ z k,(V z).ownBlock=some k→k < W.heap.size:=fun z k hk=>(h.lay z).lt hk
 refine ⟨hm,fun z=>?_,fun z=>?_,fun z k hk=>?_,fun z y hne k hk=>?_⟩
 ·by_cases e:z=x
  ·subst e
   rw [if_pos rfl,atKey_put_same isM (keyB_key z)]
  ·rw [if_neg e,atKey_put_other (fun c=>e (keyB_inj c)),h.at_ z]
 ·by_cases e:z=x
  ·subst e
   simp only [if_true]
   exact hl.kept fun k hk=>hg.block k (hl.lt hk) (by have:=hf k hk;simp;omega)
  ·simp only [e,if_false]
   refine (h.lay z).kept fun k hk=>?_
   rw [hg.block k (Nat.lt_of_lt_of_le (vlt z k hk) hb.size) (fun c=>(h.ge z k hk).2 (by injection c)),hb.block k (vlt z k hk)]
 ·by_cases e:z=x
  ·subst e
   simp only [if_true] at hk
   have:=hf k hk
   omega
  ·simp only [e,if_false] at hk
   exact h.ge z k hk
 ·by_cases e:z=x
  ·subst e
   simp only [if_true] at hk
   rw [if_neg (fun c=>hne c.symm)]
   intro c
   have:=vlt y k c
   have:=hf k hk
   omega
  ·simp only [e,if_false] at hk
   by_cases e2:y=x
   ·subst e2
    simp only [if_true]
    intro c
    have:=vlt z k hk
    have:=hf k c
    omega
   ·simp only [e2,if_false]
    exact h.ne z y hne k hk
set_option maxRecDepth 20000 in
set_option maxHeartbeats 4000000 in
theorem refTake_any {B:Nat} {W:World} {rb mb n:Nat} {D:DataW Value} {V:ByteArray→Value} {M:ByteArray→List Lay} (h:RLay B W mb n D V M) (hr:W.cell? ⟨rb,1,none⟩=some (.map (some mb))) (hBW:B≤W.heap.size) (x:ByteArray) (hx:x.size≤maxLen) (q:Int) (hq:0≤q) (hq':q≤1000000000)
  (hok:∀ y ∈ M x,LayOK y) (hv:sumV (M x)≤20000000000000) (hl:(M x).length≤1000) (hn:n < 1000000) (hgl:TabG W) :
  Calls Tryz.prog 217 #[.pointer (some ⟨rb,0,none⟩),.string x,.int .i64 q] W fun r w'=>r = .returned (.tuple #[.int .i64 (tk (M x) q).2.1,.int .i64 (tk (M x) q).2.2]) ∧
   ∃ nv,RLay B w' mb (n + 1) (D.put (keyB x) (.held nv)) (fun z=>if z=x then nv else V z) (fun z=>if z=x then (tk (M x) q).1 else M z)∧(∀ k,nv.ownBlock=some k→W.heap.size≤k)∧W.grownBy w' (some mb):=by
 obtain ⟨i0,hi,hz0,hz1,hz2⟩:=info_parts Tryz.infoLay
 have h1:=h.look x hx
 have h2:=h.lay x
 have HR:Hid (RLay B W mb n D V M):=h
 obtain ⟨ys,hys⟩:∃ ys,ys=M x:=⟨_,rfl⟩
 rw [← hys] at h2 hok hv hl
 rw [← hys]
 have HOK:Hid (∀ y ∈ ys,LayOK y):=hok
 have HG:Hid (TabG W):=hgl
 have HTK:Hid (tkR ([],0,q) ys=tk ys q):=by
  show _=_
  have:=tkR_is ys [] 0 q hok hq
  rw [List.nil_append,Int.zero_add] at this
  exact this
 obtain ⟨ad2,n2,cp2,hv2⟩:=h2.slice
 rw [hv2] at h1 h2
 have hn2:=h2.nilOf
 subst hn2
 have H2:Hid (LayAt W (.slice ad2 ys.length cp2) ys):=h2
 clear hys hv2 h hgl h2
 go_enter Tryz.func217,Tryz.ntmps217
 go_wp2_with fail
 clear h1
 go_loopw [2,6,8,21] (fun nv vv lv i wr=>∃ k:Nat,k≤ys.length∧i = .int .i64 k∧nv = .int .i64 (tkR ([],0,q) (ys.take k)).2.2∧vv = .int .i64 (tkR ([],0,q) (ys.take k)).2.1∧Hid (LayAt wr lv (tkR ([],0,q) (ys.take k)).1)∧Hid (∀ j,lv.ownBlock=some j→W.heap.size≤j)∧Below W.heap.size W wr) (fun _ _ _ i _=>ys.length - (intOf i).toNat)
 case atStart=>exact ⟨0,Nat.zero_le _,rfl,rfl,rfl,LayAt.nil _,fun j hj=>(by cases hj),Below.refl _ _⟩
 case round=>
  obtain ⟨k,hk,rfl,rfl,rfl,HL,HF,hb⟩:=hrel
  by_cases hlt:k < ys.length
  ·rcases H2.out.form with ⟨e,e2⟩ | ⟨g,o,cap,e,hg,hc1,hc2⟩
   ·rw [e2] at hlt;exact absurd hlt (Nat.not_lt_zero _)
   ·simp only [Value.slice.injEq] at e
    obtain ⟨rfl,_,rfl⟩:=e
    have hc:=fun j hj=>((H2.out.below hb).cell k j hlt hj).1
    have c0:=hc 0 (by omega)
    have c1:=hc 1 (by omega)
    have c2:=hc 2 (by omega)
    have st:=sum_take HOK.out k
    have st1:=sum_take HOK.out (k + 1)
    have sn:=sum_snoc ys k hlt
    rw [sn.1,sn.2] at st1
    have tt:=tkR_took HOK.out hq k
    have hstep:=tkR_snoc ([],0,q) ys k hlt
    have ok:=HOK.out ys[k] (List.getElem_mem hlt)
    clear sn hc
    obtain ⟨T,hT⟩:∃ T,T=tkR ([],0,q) (ys.take k):=⟨_,rfl⟩
    rw [← hT] at tt hstep HL
    rw [← hT]
    generalize ys[k]=y at c0 c1 c2 st1 ok hstep
    obtain ⟨id,qty,val⟩:=y
    obtain ⟨tl,tv,tm⟩:=T
    have HS:Hid (tkR ([],0,q) (ys.take (k + 1))=tkStep (tl,tv,tm) ⟨id,qty,val⟩):=hstep
    unfold LayOK at ok
    simp only [layC,List.getElem?_cons_zero,List.getElem?_cons_succ,Nat.add_zero] at c0 c1 c2 st1 ok
    have hmb:0≤tm∧tm≤q:=by
     have f:=tt.few
     have m:=tt.many
     simp only at f m
     rcases Int.lt_or_le (sumQ (ys.take k)) q with a | a
     ·have:=(m a).2;omega
     ·have:=(f a).2;omega
    have htv:0≤tv∧tv≤20000000000000:=by
     have a:=tt.val
     have b:=tt.pos
     have c:=(sum_nonneg tt.ok).2
     simp only at a b c
     omega
    have htl:tl.length≤1000:=by have:=tt.len;simp only [List.length_take] at this;omega
    clear hT tt hstep
    simp only
    obtain ⟨W1,hW1⟩:∃ X,X=wr.alloc (.cells #[.int .i64 id,.int .i64 qty,.int .i64 val] 299):=⟨_,rfl⟩
    have b1:Below wr.heap.size wr W1:=by rw [hW1];exact (Below.refl _ _).alloc (Nat.le_refl _) _
    have hB1:Below W.heap.size W W1:=hb.trans (b1.mono hb.size)
    have y0:W1.cell? ⟨wr.heap.size,0,none⟩=some (.int .i64 id):=by rw [hW1];simp
    have y1:W1.cell? ⟨wr.heap.size,1,none⟩=some (.int .i64 qty):=by rw [hW1];simp
    have y2:W1.cell? ⟨wr.heap.size,2,none⟩=some (.int .i64 val):=by rw [hW1];simp
    have hs1:wr.heap.size < W1.heap.size:=by rw [hW1];simp
    have HW1:Hid (W1=_):=hW1
    have hvl:val≤20000000000000:=by omega
    clear hW1
    by_cases hc:tm < qty
    ·have hpa:=refPart_ok val tm qty W1 (HG.out.below hB1) ok.2.2 hvl hmb.1 (by omega) ok.1 ok.2.1
     have hsh:=share_bd val tm qty ok.2.2 hmb.1 (by omega) ok.1
     obtain ⟨sv,hsv⟩:∃ v,v=shr val tm qty:=⟨_,rfl⟩
     rw [← hsv] at hpa hsh
     have HSV:Hid (tkStep (tl,tv,tm) ⟨id,qty,val⟩=(tl ++ [⟨id,qty - tm,val - sv⟩],tv + sv,0)):=by
      show _=_
      unfold tkStep few
      simp only [hc,if_true,Int.sub_self]
      rw [hsv];rfl
     clear hsv
     go_wp2_with fail
     rw [← HW1.out]
     refine hpa.mono ?_
     rintro e w2 ⟨rfl,b2⟩
     clear hpa
     have z0:=below_cell b2 y0
     have z1:=below_cell b2 y1
     have z2:=below_cell b2 y2
     have hB2:Below W.heap.size W w2:=hB1.trans (b2.mono hB1.size)
     have HL2:Hid (LayAt w2 u8 tl):=(HL.out.below b1).below b2
     clear y0 y1 y2 c0 c1 c2 HW1
     go_wp2_with (first
      | (at_builtin;refine wpList_append_lay _ rfl _ _ 297 rfl i0 layZ Tryz.underlying297 hi hz0 hz1 hz2 rfl u8 tl rfl (HL2.out.below ((Below.refl _ _).alloc (Nat.le_refl _) _)) (by omega) ⟨w2.heap.size,0,none⟩ 1 ⟨id,qty - tm,val - sv⟩ rfl (cells_of_list rfl) ?_)
      | go_in)
     intro v' w3 hl3 hgr hfr
     have hB3:Below W.heap.size W (w2.alloc (.cells (layC ⟨id,qty - tm,val - sv⟩).toArray 299)):=hB2.alloc hB2.size _
     have hs2:W.heap.size≤w2.heap.size:=hB2.size
     have hB4:Below W.heap.size W w3:=hB3.grown hgr hB3.size (fun j hj=>HF.out j hj)
     obtain ⟨ad3,n3,cp3,hv3⟩:=hl3.slice
     subst hv3
     have HL3:Hid (LayAt w3 (.slice ad3 n3 cp3) (tl ++ [⟨id,qty - tm,val - sv⟩])):=hl3
     have HF3:Hid (∀ j,(Value.slice ad3 n3 cp3).ownBlock=some j→W.heap.size≤j):=fun j hj=>by
      rcases hfr j hj with a | a
      ·exact HF.out j a
      ·have:w2.heap.size≤j:=by simp at a;omega
       omega
     clear hl3 hgr hfr z0 z1 z2
     go_wp2
     go_roundw
     case rel=>
      refine ⟨k + 1,by omega,by go_num,?_,?_,?_,HF3,hB4⟩
      ·rw [HS.out,HSV.out]
      ·rw [HS.out,HSV.out]
      ·show LayAt _ _ _
       rw [HS.out,HSV.out]
       exact HL3.out
     case measure=>simp [intOf];omega
    ·have hpa:=refPart_ok val qty qty W1 (HG.out.below hB1) ok.2.2 hvl (by omega) (Int.le_refl _) ok.1 ok.2.1
     have hsv:shr val qty qty=val:=Int.mul_ediv_cancel _ (by omega)
     rw [hsv] at hpa
     have HSV:Hid (tkStep (tl,tv,tm) ⟨id,qty,val⟩=(tl,tv + val,tm - qty)):=by
      show _=_
      unfold tkStep few
      have hd:val * qty / qty=val:=hsv
      simp only [hc,if_false,Int.lt_irrefl,hd]
     clear hsv
     go_wp2_with fail
     rw [← HW1.out]
     refine hpa.mono ?_
     rintro e w2 ⟨rfl,b2⟩
     clear hpa
     have z0:=below_cell b2 y0
     have z1:=below_cell b2 y1
     have z2:=below_cell b2 y2
     have hB2:Below W.heap.size W w2:=hB1.trans (b2.mono hB1.size)
     have HL2:Hid (LayAt w2 u8 tl):=(HL.out.below b1).below b2
     clear y0 y1 y2 c0 c1 c2 HW1
     go_wp2
     go_roundw
     case rel=>
      refine ⟨k + 1,by omega,by go_num,?_,?_,?_,HF,hB2⟩
      ·rw [HS.out,HSV.out]
      ·rw [HS.out,HSV.out]
      ·show LayAt _ _ _
       rw [HS.out,HSV.out]
       exact HL2.out
     case measure=>simp [intOf];omega
  ·obtain rfl:k=ys.length:=by omega
   rw [List.take_length,HTK.out] at HL
   rw [List.take_length,HTK.out]
   obtain ⟨ad3,n3,cp3,hv3⟩:=HL.out.slice
   subst hv3
   have hrw:wr.cell? ⟨rb,1,none⟩=some (.map (some mb)):=(hb.cell (p:=⟨rb,1,none⟩) (World.block_lt_of_cell? _ _ hr)).trans hr
   have HM:Hid (wr.ownsMap Tryz.prog 9 heldE mb n D):=map_same HR.out.map (hb.block _ HR.out.map.lt)
   have hnm:n < maxLen:=by unfold maxLen;omega
   go_wp2_with (first
    | (at_mapUpdate;refine wpList_mapUpdate_own _ rfl _ _ _ 262 rfl 9 297 law_strT Tryz.underlying262 heldE mb n D rfl HM.out hnm _ _ (keyB x) rfl rfl (key_str x hx) (.held (.slice ad3 n3 cp3)) [] rfl ?_)
    | go_in)
   intro w3 m3 g3
   have HRP:=HR.out.put hBW hb x _ _ HL.out HF.out m3 g3
   have hgw:W.grownBy w3 (some mb):=⟨g3.os.trans hb.os,g3.tape.trans hb.tape,g3.output.trans hb.output,Nat.le_trans hb.size g3.size,fun j hj hne=>(g3.block j (Nat.lt_of_lt_of_le hj hb.size) hne).trans (hb.block j hj)⟩
   have HFIN:Hid _:=And.intro HRP (And.intro HF.out hgw)
   clear HRP hgw m3 g3 hrw
   go_wp2
   go_ret2
   exact ⟨rfl,_,HFIN.out.1,HFIN.out.2.1,HFIN.out.2.2⟩
end Go.Proofs.YtdkhohlhdiekmaaGreatDoor
