/-  -/
import Derived.Test.YtdkhohlhdiekmaaGreatDoorBnA
import Derived.Lib.SmallJoins
import Derived.Test.YtdkhohlhdiekmaaGreatDoorBnB
namespace Go.Proofs.YtdkhohlhdiekmaaGreatDoor
open Go.ChangeShapes Go.WideShapes Go.RowKit Go.Deep Go.WideElems Go.Maps Go.Joins
def evV (e:Ev):Value:=.agg #[.int .i64 e.id,.string e.item,.int .i64 e.kind,.int .i64 e.qty,.int .i64 e.price,.int .i64 e.ofI,.int .i64 e.day]
structure EvW (e:Ev):Prop where
 id:(Lit.int .i64 e.id).wf=true
 item:e.item.size≤maxLen
 kind:(Lit.int .i64 e.kind).wf=true
 qty:(Lit.int .i64 e.qty).wf=true
 price:(Lit.int .i64 e.price).wf=true
 ofI:(Lit.int .i64 e.ofI).wf=true
 day:(Lit.int .i64 e.day).wf=true
section
variable {H:Type} {enc:TypeId × Value→H} {P:Program} {w:World} {base:Nat} {spare:Nat→Bool} {held:Bool}
end
section
variable {H:Type} {enc:TypeId × Value→H} {w:World} {base:Nat} {spare:Nat→Bool} {held:Bool}
end
end Go.Proofs.YtdkhohlhdiekmaaGreatDoor
namespace Go.Proofs.YtdkhohlhdiekmaaGreatDoor
open Go.RowKit
theorem eret_bool {a b:Bool} (h:a=b):Ending.returned (.bool a) = .returned (.bool b):=by rw [h]
def Tells (e:Ending) (p:Prop):Prop:=∃ b:Bool,e = .returned (.bool b)∧(b=true ↔ p)
theorem within1_yes (n l h:Int) (a b:Addr) (w:World) (ha:w.cell? a=some (.int .i64 l)) (hb:w.cell? b=some (.int .i64 h)) (h1:l≤n) (h2:n≤h) :
  Calls Tryz.prog 244 #[.int .i64 n,.pointer (some a),.pointer (some b)] w fun e w'=>e = .returned (.bool true)∧w'=w:=by
 go_enter Tryz.func244,Tryz.ntmps244
 go_wp2
 go_ret
 exact ⟨rfl,rfl⟩
theorem within1_no (n l h:Int) (a b:Addr) (w:World) (ha:w.cell? a=some (.int .i64 l)) (hb:w.cell? b=some (.int .i64 h)) (h1:¬ (l≤n∧n≤h)) :
  Calls Tryz.prog 244 #[.int .i64 n,.pointer (some a),.pointer (some b)] w fun e w'=>e = .returned (.bool false)∧w'=w:=by
 by_cases c:l≤n
 ·have c2:¬ n≤h:=by omega
  clear h1
  go_enter Tryz.func244,Tryz.ntmps244
  go_wp2
  go_ret
  exact ⟨eret_bool (by simp),rfl⟩
 ·clear h1
  go_enter Tryz.func244,Tryz.ntmps244
  go_wp2
  go_ret
  exact ⟨rfl,rfl⟩
theorem within_any (l h:Int) (w:World) :
  Calls Tryz.prog 225 #[.int .i64 l,.int .i64 h] w fun e w'=>e = .returned (.func (.func 244) #[] #[.pointer (some ⟨w.heap.size,0,none⟩),.pointer (some ⟨w.heap.size + 1,0,none⟩)])∧w'=(w.alloc (.cells #[.int .i64 l] 3)).alloc (.cells #[.int .i64 h] 3):=by
 go_enter Tryz.func225,Tryz.ntmps225
 go_wp2
 go_ret
 exact ⟨rfl,rfl⟩
theorem letter_yes (c:Nat) (w:World) (h1:97≤c) (h2:c≤122) :
  Calls Tryz.prog 242 #[.int .u8 c] w fun e w'=>e = .returned (.bool true)∧w'=w:=by
 go_enter Tryz.func242,Tryz.ntmps242
 go_wp2
 go_ret
 exact ⟨eret_bool (by simp;omega),rfl⟩
theorem letter_no (c:Nat) (w:World) (h1:¬ (97≤c∧c≤122)) :
  Calls Tryz.prog 242 #[.int .u8 c] w fun e w'=>e = .returned (.bool false)∧w'=w:=by
 by_cases h:97≤c
 ·have h2:¬ c≤122:=by omega
  clear h1
  go_enter Tryz.func242,Tryz.ntmps242
  go_wp2
  go_ret
  exact ⟨eret_bool (by simp;omega),rfl⟩
 ·clear h1
  go_enter Tryz.func242,Tryz.ntmps242
  go_wp2
  go_ret
  exact ⟨rfl,rfl⟩
theorem digit_yes (c:Nat) (w:World) (h1:48≤c) (h2:c≤57) :
  Calls Tryz.prog 243 #[.int .u8 c] w fun e w'=>e = .returned (.bool true)∧w'=w:=by
 go_enter Tryz.func243,Tryz.ntmps243
 go_wp2
 go_ret
 exact ⟨eret_bool (by simp;omega),rfl⟩
theorem digit_no (c:Nat) (w:World) (h1:¬ (48≤c∧c≤57)) :
  Calls Tryz.prog 243 #[.int .u8 c] w fun e w'=>e = .returned (.bool false)∧w'=w:=by
 by_cases h:48≤c
 ·have h2:¬ c≤57:=by omega
  clear h1
  go_enter Tryz.func243,Tryz.ntmps243
  go_wp2
  go_ret
  exact ⟨eret_bool (by simp;omega),rfl⟩
 ·clear h1
  go_enter Tryz.func243,Tryz.ntmps243
  go_wp2
  go_ret
  exact ⟨rfl,rfl⟩
theorem ehead_is (s:ByteArray) (h:0 < s.size):s.data.toList.head?=some s[0]:=ebh_is s h
theorem mem_at (s:ByteArray) (c:UInt8) (h:c ∈ s.data.toList):∃ (k:Nat) (hk:k < s.size),s[k]=c:=by
 obtain ⟨k,hk,e⟩:=List.getElem_of_mem h
 exact ⟨k,by rw [eba_len] at hk;exact hk,e⟩
theorem at_mem (s:ByteArray) (k:Nat) (hk:k < s.size):s[k] ∈ s.data.toList:=List.getElem_mem (by rw [eba_len];exact hk)
set_option maxHeartbeats 1000000 in
theorem name_any (s:ByteArray) (w:World) (hs:s.size≤maxLen) :
  Calls Tryz.prog 224 #[.string s] w fun e w'=>Tells e (isName s.data.toList)∧w'=w:=by
 unfold maxLen at hs
 by_cases h0:s.size < 1
 ·go_enter Tryz.func224,Tryz.ntmps224
  go_wp2
  go_ret
  refine ⟨⟨false,rfl,?_⟩,rfl⟩
  constructor
  ·intro h;cases h
  ·intro h;have:=h.1.1;rw [eba_len] at this;omega
 ·by_cases h10:10 < s.size
  ·go_enter Tryz.func224,Tryz.ntmps224
   go_wp2
   go_ret
   refine ⟨⟨false,rfl,?_⟩,rfl⟩
   constructor
   ·intro h;cases h
   ·intro h;have:=h.1.2;rw [eba_len] at this;omega
  ·have hp:0 < s.size:=by omega
   have hc0:s[0].toNat < 256:=s[0].toNat_lt
   by_cases hl:97≤s[0].toNat∧s[0].toNat≤122
   ·go_enter Tryz.func224,Tryz.ntmps224
    go_wp2_with (go_at_call 242;refine (letter_yes s[0].toNat _ hl.1 hl.2).mono ?_;rintro e w' ⟨rfl,rfl⟩)
    go_loop [20] (fun i=>∃ k:Nat,k≤s.size∧i = .int .i64 k∧∀ (j:Nat) (hj:j < s.size),j < k→isLet s[j]∨isDig s[j]) (fun i=>s.size - (intOf i).toNat)
    case atStart=>exact ⟨0,Nat.zero_le _,rfl,fun j _ hj=>by omega⟩
    case round=>
     obtain ⟨k,hk,rfl,hall⟩:=hrel
     have HA:=hidE hall
     clear hall
     by_cases hlt:k < s.size
     ·have hck:s[k].toNat < 256:=s[k].toNat_lt
      by_cases a1:97≤s[k].toNat∧s[k].toNat≤122
      ·go_wp2_with (go_at_call 242;refine (letter_yes s[k].toNat _ a1.1 a1.2).mono ?_;rintro e w' ⟨rfl,rfl⟩)
       go_round
       case rel=>exact ⟨k + 1,by omega,by go_num,fun j hj hjk=>by
        by_cases e:j=k
        ·subst e;exact .inl a1
        ·exact HA.out j hj (by omega)⟩
       case measure=>simp [intOf];omega
      ·by_cases a2:48≤s[k].toNat∧s[k].toNat≤57
       ·go_wp2_with (first | (go_at_call 242;refine (letter_no s[k].toNat _ a1).mono ?_;rintro e w' ⟨rfl,rfl⟩) | (go_at_call 243;refine (digit_yes s[k].toNat _ a2.1 a2.2).mono ?_;rintro e w' ⟨rfl,rfl⟩))
        go_round
        case rel=>exact ⟨k + 1,by omega,by go_num,fun j hj hjk=>by
         by_cases e:j=k
         ·subst e;exact .inr a2
         ·exact HA.out j hj (by omega)⟩
        case measure=>simp [intOf];omega
       ·go_wp2_with (first | (go_at_call 242;refine (letter_no s[k].toNat _ a1).mono ?_;rintro e w' ⟨rfl,rfl⟩) | (go_at_call 243;refine (digit_no s[k].toNat _ a2).mono ?_;rintro e w' ⟨rfl,rfl⟩))
        go_ret
        refine ⟨⟨false,rfl,?_⟩,rfl⟩
        constructor
        ·intro h;cases h
        ·intro h
         rcases h.2.2 _ (at_mem s k hlt) with h | h
         ·exact absurd h a1
         ·exact absurd h a2
     ·go_wp2
      go_ret
      refine ⟨⟨true,rfl,?_⟩,rfl⟩
      constructor
      ·intro _
       refine ⟨⟨by rw [eba_len];omega,by rw [eba_len];omega⟩,?_,?_⟩
       ·intro c hc
        rw [ehead_is s hp] at hc
        cases hc
        exact hl
       ·intro c hc
        obtain ⟨j,hj,rfl⟩:=mem_at s c hc
        exact HA.out j hj (by omega)
      ·intro _;rfl
   ·go_enter Tryz.func224,Tryz.ntmps224
    go_wp2_with (go_at_call 242;refine (letter_no s[0].toNat _ hl).mono ?_;rintro e w' ⟨rfl,rfl⟩)
    go_ret
    refine ⟨⟨false,rfl,?_⟩,rfl⟩
    constructor
    ·intro h;cases h
    ·intro h
     exact absurd (h.2.1 _ (ehead_is s hp)) hl
structure EvAt (w:World) (b:Nat) (e:Ev):Prop where
 c0:w.cell? ⟨b,0,none⟩=some (.int .i64 e.id)
 c1:w.cell? ⟨b,1,none⟩=some (.string e.item)
 c2:w.cell? ⟨b,2,none⟩=some (.int .i64 e.kind)
 c3:w.cell? ⟨b,3,none⟩=some (.int .i64 e.qty)
 c4:w.cell? ⟨b,4,none⟩=some (.int .i64 e.price)
 c5:w.cell? ⟨b,5,none⟩=some (.int .i64 e.ofI)
 c6:w.cell? ⟨b,6,none⟩=some (.int .i64 e.day)
theorem below_cell {w w':World} (hb:Below w.heap.size w w') {p:Addr} {x:Value} (h:w.cell? p=some x):w'.cell? p=some x:=by
 rw [hb.cell (World.block_lt_of_cell? _ _ h)];exact h
theorem EvAt.below {w w':World} {b:Nat} {e:Ev} (h:EvAt w b e) (hb:Below w.heap.size w w'):EvAt w' b e:=
 ⟨below_cell hb h.c0,below_cell hb h.c1,below_cell hb h.c2,below_cell hb h.c3,below_cell hb h.c4,below_cell hb h.c5,below_cell hb h.c6⟩
theorem EvAt.up {w:World} {b:Nat} {e:Ev} (h:EvAt w b e) (n:Up w):EvAt n.v b e:=h.below n.h
theorem int_bd {n:Int} (h:(Lit.int .i64 n).wf=true) : -9223372036854775808≤n∧n≤9223372036854775807:=by
 simp only [Lit.wf,Bool.and_eq_true,decide_eq_true_eq] at h
 have h1:IntKind.i64.min = -9223372036854775808:=rfl
 have h2:IntKind.i64.max=9223372036854775807:=rfl
 rw [h1,h2] at h
 exact h
theorem within_at (l h:Int) (w:World) :
  Calls Tryz.prog 225 #[.int .i64 l,.int .i64 h] w fun e w'=>∃ a b:Addr,e = .returned (.func (.func 244) #[] #[.pointer (some a),.pointer (some b)])∧w'.cell? a=some (.int .i64 l)∧w'.cell? b=some (.int .i64 h)∧Below w.heap.size w w':=by
 refine (within_any l h w).mono ?_
 rintro e w' ⟨rfl,rfl⟩
 exact ⟨_,_,rfl,by simp,by simp,((Below.refl _ _).alloc (Nat.le_refl _) _).alloc (by simp) _⟩
set_option maxHeartbeats 8000000 in
theorem right_any (e:Ev) (w:World) (hw:EvW e) :
  Calls Tryz.prog 192 #[evV e] w fun x w'=>Tells x (Rt e)∧Below w.heap.size w w':=by
 obtain ⟨id,item,kind,qty,price,ofI,day⟩:=e
 obtain ⟨_,hs,_,_,_,ho0,_⟩:=hw
 have ho:ofI≤9223372036854775807:=(int_bd ho0).2
 unfold evV
 simp only at hs ⊢
 clear ho0
 have hU:=up_ne
 have hnm:∃ b:Bool,(b=true ↔ isName item.data.toList):=by
  rcases Classical.em (isName item.data.toList) with h | h
  ·exact ⟨true,by simp [h]⟩
  ·exact ⟨false,by simp [h]⟩
 clear hnm
 go_enter Tryz.func192,Tryz.ntmps192
 go_wp2_with fail
 refine wp_region_mix [(true,0),(true,1),(false,2),(true,3),(true,4),(true,6),(true,7),(false,5),(false,8),(true,9),(true,10)] (by kernel_rfl) (by kernel_rfl) ?_
 obtain ⟨W0,hW⟩:∃ W,W=(w.alloc (.cells #[.int .i64 id,.string item,.int .i64 kind,.int .i64 qty,.int .i64 price,.int .i64 ofI,.int .i64 day] 78)).drew:=⟨_,rfl⟩
 rw [← hW]
 have hE0:EvAt W0 w.heap.size ⟨id,item,kind,qty,price,ofI,day⟩:=by
  rw [hW];constructor <;> simp
 have hB0:Below w.heap.size w W0:=by rw [hW];exact ((Below.refl _ _).alloc (Nat.le_refl _) _).trans ((below_drew _).mono (by simp))
 clear hW
 have c1:=hE0.c1
 have f1:=fun n:Up W0=>(hE0.up n).c1
 have c2:=hE0.c2
 have f2:=fun n:Up W0=>(hE0.up n).c2
 have c3:=hE0.c3
 have f3:=fun n:Up W0=>(hE0.up n).c3
 have c4:=hE0.c4
 have f4:=fun n:Up W0=>(hE0.up n).c4
 have c5:=hE0.c5
 have f5:=fun n:Up W0=>(hE0.up n).c5
 have c6:=hE0.c6
 have f6:=fun n:Up W0=>(hE0.up n).c6
 repeat (refine mix_q rfl ?_;go_big_quiet_step (fail);refine wpQuiet_nil ?_)
 refine mix_n rfl ?_
 go_wp2_with fail
 refine (name_any item _ hs).mono ?_
 rintro e w' ⟨⟨b,rfl,hb⟩,hw⟩
 subst w'
 have HB:=hidE hb
 clear hb
 rcases b with _ | _
 ·go_wp2_with fail
  refine ⟨rfl,Below.refl _ _,?_⟩
  repeat (refine mix_q rfl ?_;go_big_quiet_step (fail);refine wpQuiet_nil ?_)
  refine mix_n rfl ?_
  go_wp2_with fail
  refine ⟨rfl,Below.refl _ _,?_⟩
  refine mix_n rfl ?_
  go_wp2_with fail
  refine ⟨rfl,Below.refl _ _,?_⟩
  repeat (refine mix_q rfl ?_;go_big_quiet_step (fail);refine wpQuiet_nil ?_)
  refine mix_nil ?_
  go_wp2
  go_ret
  refine ⟨⟨false,rfl,?_⟩,hB0⟩
  exact ⟨fun h=>(by cases h),fun h=>absurd (HB.out.2 h.1) (by simp)⟩
 ·have HN:=hidE (HB.out.1 rfl)
  clear HB
  go_wp2_with fail
  refine ⟨rfl,Below.refl _ _,?_⟩
  repeat (refine mix_q rfl ?_;go_big_quiet_step (fail);refine wpQuiet_nil ?_)
  refine mix_n rfl ?_
  go_wp2_with fail
  refine (within_at 0 99999 _).mono ?_
  rintro e W1 ⟨a1,b1,rfl,ca1,cb1,hb1⟩
  go_wp2_with fail
  refine ⟨rfl,hb1,?_⟩
  clear c1 f1 c2 f2 c3 f3 c4 f4 c5 f5 c6 f6
  have hE1:=hE0.below hb1
  have hB1:=hB0.trans (hb1.mono hB0.size)
  have c1:=hE1.c1
  have f1:=fun n:Up W1=>(hE1.up n).c1
  have c2:=hE1.c2
  have f2:=fun n:Up W1=>(hE1.up n).c2
  have c3:=hE1.c3
  have f3:=fun n:Up W1=>(hE1.up n).c3
  have c4:=hE1.c4
  have f4:=fun n:Up W1=>(hE1.up n).c4
  have c5:=hE1.c5
  have f5:=fun n:Up W1=>(hE1.up n).c5
  have c6:=hE1.c6
  have f6:=fun n:Up W1=>(hE1.up n).c6
  clear hE0 hb1
  repeat (refine mix_q rfl ?_;go_big_quiet_step (fail);refine wpQuiet_nil ?_)
  by_cases hd:0≤day∧day≤99999
  ·obtain ⟨hd0,hd1⟩:=hd
   refine mix_n rfl ?_
   go_wp2_with fail
   refine (within1_yes day 0 99999 a1 b1 _ ca1 cb1 (by omega) (by omega)).mono ?_
   rintro e w' ⟨rfl,hw⟩
   subst w'
   go_wp2_with fail
   refine ⟨rfl,Below.refl _ _,?_⟩
   repeat (refine mix_q rfl ?_;go_big_quiet_step (fail);refine wpQuiet_nil ?_)
   refine mix_nil ?_
   go_wp2_with fail
   refine (within_at 0 0 _).mono ?_
   rintro e W2 ⟨a2,b2,rfl,ca2,cb2,hb2⟩
   clear c1 f1 c2 f2 c3 f3 c4 f4 c5 f5 c6 f6
   have hE2:=hE1.below hb2
   have hB2:=hB1.trans (hb2.mono hB1.size)
   have c1:=hE2.c1
   have f1:=fun n:Up W2=>(hE2.up n).c1
   have c2:=hE2.c2
   have f2:=fun n:Up W2=>(hE2.up n).c2
   have c3:=hE2.c3
   have f3:=fun n:Up W2=>(hE2.up n).c3
   have c4:=hE2.c4
   have f4:=fun n:Up W2=>(hE2.up n).c4
   have c5:=hE2.c5
   have f5:=fun n:Up W2=>(hE2.up n).c5
   have c6:=hE2.c6
   have f6:=fun n:Up W2=>(hE2.up n).c6
   clear hE1 hb2
   go_wp2_with fail
   refine (within_at 1 100000 _).mono ?_
   rintro e W3 ⟨a3,b3,rfl,ca3,cb3,hb3⟩
   clear c1 f1 c2 f2 c3 f3 c4 f4 c5 f5 c6 f6
   have hE3:=hE2.below hb3
   have hB3:=hB2.trans (hb3.mono hB2.size)
   have ca2':=below_cell hb3 ca2
   have cb2':=below_cell hb3 cb2
   clear ca2 cb2
   have ca2:=ca2';have cb2:=cb2';clear ca2' cb2'
   have c1:=hE3.c1
   have f1:=fun n:Up W3=>(hE3.up n).c1
   have c2:=hE3.c2
   have f2:=fun n:Up W3=>(hE3.up n).c2
   have c3:=hE3.c3
   have f3:=fun n:Up W3=>(hE3.up n).c3
   have c4:=hE3.c4
   have f4:=fun n:Up W3=>(hE3.up n).c4
   have c5:=hE3.c5
   have f5:=fun n:Up W3=>(hE3.up n).c5
   have c6:=hE3.c6
   have f6:=fun n:Up W3=>(hE3.up n).c6
   clear hE2 hb3
   by_cases k1:kind=1
   ·subst k1
    go_wp2_with fail
    refine wp_region_mix [(true,0),(true,1),(true,2),(false,3),(true,4),(true,6),(true,7),(false,5),(false,8),(true,9),(true,10),(true,11),(true,12),(true,13),(false,14),(true,15),(true,16)] (by kernel_rfl) (by kernel_rfl) ?_
    obtain ⟨W4,hW⟩:∃ W,W=W3.drew:=⟨_,rfl⟩
    rw [← hW]
    have hb4:Below W3.heap.size W3 W4:=by rw [hW];exact below_drew _
    clear hW
    clear c1 f1 c2 f2 c3 f3 c4 f4 c5 f5 c6 f6
    have hE4:=hE3.below hb4
    have hB4:=hB3.trans (hb4.mono hB3.size)
    have ca2':=below_cell hb4 ca2;have cb2':=below_cell hb4 cb2;clear ca2 cb2;have ca2:=ca2';have cb2:=cb2';clear ca2' cb2'
    have ca3':=below_cell hb4 ca3;have cb3':=below_cell hb4 cb3;clear ca3 cb3;have ca3:=ca3';have cb3:=cb3';clear ca3' cb3'
    have c1:=hE4.c1
    have f1:=fun n:Up W4=>(hE4.up n).c1
    have c2:=hE4.c2
    have f2:=fun n:Up W4=>(hE4.up n).c2
    have c3:=hE4.c3
    have f3:=fun n:Up W4=>(hE4.up n).c3
    have c4:=hE4.c4
    have f4:=fun n:Up W4=>(hE4.up n).c4
    have c5:=hE4.c5
    have f5:=fun n:Up W4=>(hE4.up n).c5
    have c6:=hE4.c6
    have f6:=fun n:Up W4=>(hE4.up n).c6
    clear hE3 hb4
    repeat (refine mix_q rfl ?_;go_big_quiet_step (fail);refine wpQuiet_nil ?_)
    by_cases hq:1≤qty∧qty≤100000
    ·skip
     refine mix_n rfl ?_
     go_wp2_with fail
     refine (within1_yes qty 1 100000 a3 b3 _ ca3 cb3 (by omega) (by omega)).mono ?_
     rintro e w' ⟨rfl,hw⟩
     subst w'
     go_wp2_with fail
     refine ⟨rfl,Below.refl _ _,?_⟩
     repeat (refine mix_q rfl ?_;go_big_quiet_step (fail);refine wpQuiet_nil ?_)
     refine mix_n rfl ?_
     go_wp2_with fail
     refine (within_at 0 1000000 _).mono ?_
     rintro e W5 ⟨a5,b5,rfl,ca5,cb5,hb5⟩
     go_wp2_with fail
     refine ⟨rfl,hb5,?_⟩
     clear c1 f1 c2 f2 c3 f3 c4 f4 c5 f5 c6 f6
     have hE5:=hE4.below hb5
     have hB5:=hB4.trans (hb5.mono hB4.size)
     have ca2':=below_cell hb5 ca2
     have cb2':=below_cell hb5 cb2
     clear ca2 cb2
     have ca2:=ca2';have cb2:=cb2';clear ca2' cb2'
     have ca3':=below_cell hb5 ca3
     have cb3':=below_cell hb5 cb3
     clear ca3 cb3
     have ca3:=ca3';have cb3:=cb3';clear ca3' cb3'
     have c1:=hE5.c1
     have f1:=fun n:Up W5=>(hE5.up n).c1
     have c2:=hE5.c2
     have f2:=fun n:Up W5=>(hE5.up n).c2
     have c3:=hE5.c3
     have f3:=fun n:Up W5=>(hE5.up n).c3
     have c4:=hE5.c4
     have f4:=fun n:Up W5=>(hE5.up n).c4
     have c5:=hE5.c5
     have f5:=fun n:Up W5=>(hE5.up n).c5
     have c6:=hE5.c6
     have f6:=fun n:Up W5=>(hE5.up n).c6
     clear hE4 hb5
     repeat (refine mix_q rfl ?_;go_big_quiet_step (fail);refine wpQuiet_nil ?_)
     by_cases hp:0≤price∧price≤1000000
     ·skip
      refine mix_n rfl ?_
      go_wp2_with fail
      refine (within1_yes price 0 1000000 a5 b5 _ ca5 cb5 (by omega) (by omega)).mono ?_
      rintro e w' ⟨rfl,hw⟩
      subst w'
      go_wp2_with fail
      refine ⟨rfl,Below.refl _ _,?_⟩
      repeat (refine mix_q rfl ?_;go_big_quiet_step (fail);refine wpQuiet_nil ?_)
      by_cases ho2:0≤ofI∧ofI≤0
      ·skip
       refine mix_n rfl ?_
       go_wp2_with fail
       refine (within1_yes ofI 0 0 a2 b2 _ ca2 cb2 (by omega) (by omega)).mono ?_
       rintro e w' ⟨rfl,hw⟩
       subst w'
       go_wp2_with fail
       refine ⟨rfl,Below.refl _ _,?_⟩
       repeat (refine mix_q rfl ?_;go_big_quiet_step (fail);refine wpQuiet_nil ?_)
       refine mix_nil ?_
       go_wp2
       go_ret
       refine ⟨⟨true,rfl,?_⟩,hB5⟩
       exact ⟨fun _=>⟨HN.out,⟨hd0,hd1⟩,.inl ⟨rfl,hq,hp,(show ofI=0 by omega)⟩⟩,fun _=>rfl⟩
      ·skip
       refine mix_n rfl ?_
       go_wp2_with fail
       refine (within1_no ofI 0 0 a2 b2 _ ca2 cb2 (by omega)).mono ?_
       rintro e w' ⟨rfl,hw⟩
       subst w'
       go_wp2_with fail
       refine ⟨rfl,Below.refl _ _,?_⟩
       repeat (refine mix_q rfl ?_;go_big_quiet_step (fail);refine wpQuiet_nil ?_)
       refine mix_nil ?_
       go_wp2
       go_ret
       refine ⟨⟨false,rfl,?_⟩,hB5⟩
       exact ⟨fun h=>(by cases h),fun h=>(by have hk:=h.2.2;unfold rtK at hk;simp only at hk;omega)⟩
     ·skip
      refine mix_n rfl ?_
      go_wp2_with fail
      refine (within1_no price 0 1000000 a5 b5 _ ca5 cb5 (by omega)).mono ?_
      rintro e w' ⟨rfl,hw⟩
      subst w'
      go_wp2_with fail
      refine ⟨rfl,Below.refl _ _,?_⟩
      repeat (refine mix_q rfl ?_;go_big_quiet_step (fail);refine wpQuiet_nil ?_)
      refine mix_n rfl ?_
      go_wp2_with fail
      refine ⟨rfl,Below.refl _ _,?_⟩
      repeat (refine mix_q rfl ?_;go_big_quiet_step (fail);refine wpQuiet_nil ?_)
      refine mix_nil ?_
      go_wp2
      go_ret
      refine ⟨⟨false,rfl,?_⟩,hB5⟩
      exact ⟨fun h=>(by cases h),fun h=>(by have hk:=h.2.2;unfold rtK at hk;simp only at hk;omega)⟩
    ·skip
     refine mix_n rfl ?_
     go_wp2_with fail
     refine (within1_no qty 1 100000 a3 b3 _ ca3 cb3 (by omega)).mono ?_
     rintro e w' ⟨rfl,hw⟩
     subst w'
     go_wp2_with fail
     refine ⟨rfl,Below.refl _ _,?_⟩
     repeat (refine mix_q rfl ?_;go_big_quiet_step (fail);refine wpQuiet_nil ?_)
     refine mix_n rfl ?_
     go_wp2_with fail
     refine ⟨rfl,Below.refl _ _,?_⟩
     refine mix_n rfl ?_
     go_wp2_with fail
     refine ⟨rfl,Below.refl _ _,?_⟩
     repeat (refine mix_q rfl ?_;go_big_quiet_step (fail);refine wpQuiet_nil ?_)
     refine mix_n rfl ?_
     go_wp2_with fail
     refine ⟨rfl,Below.refl _ _,?_⟩
     repeat (refine mix_q rfl ?_;go_big_quiet_step (fail);refine wpQuiet_nil ?_)
     refine mix_nil ?_
     go_wp2
     go_ret
     refine ⟨⟨false,rfl,?_⟩,hB4⟩
     exact ⟨fun h=>(by cases h),fun h=>(by have hk:=h.2.2;unfold rtK at hk;simp only at hk;omega)⟩
   by_cases k2:kind=2
   ·subst k2
    go_wp2_with fail
    refine wp_region_mix [(true,0),(true,1),(true,2),(false,3),(true,4),(true,6),(true,7),(false,5),(false,8),(true,9),(true,10),(true,12),(true,13),(false,11),(false,14),(true,15),(true,16)] (by kernel_rfl) (by kernel_rfl) ?_
    obtain ⟨W4,hW⟩:∃ W,W=W3.drew:=⟨_,rfl⟩
    rw [← hW]
    have hb4:Below W3.heap.size W3 W4:=by rw [hW];exact below_drew _
    clear hW
    clear c1 f1 c2 f2 c3 f3 c4 f4 c5 f5 c6 f6
    have hE4:=hE3.below hb4
    have hB4:=hB3.trans (hb4.mono hB3.size)
    have ca2':=below_cell hb4 ca2;have cb2':=below_cell hb4 cb2;clear ca2 cb2;have ca2:=ca2';have cb2:=cb2';clear ca2' cb2'
    have ca3':=below_cell hb4 ca3;have cb3':=below_cell hb4 cb3;clear ca3 cb3;have ca3:=ca3';have cb3:=cb3';clear ca3' cb3'
    have c1:=hE4.c1
    have f1:=fun n:Up W4=>(hE4.up n).c1
    have c2:=hE4.c2
    have f2:=fun n:Up W4=>(hE4.up n).c2
    have c3:=hE4.c3
    have f3:=fun n:Up W4=>(hE4.up n).c3
    have c4:=hE4.c4
    have f4:=fun n:Up W4=>(hE4.up n).c4
    have c5:=hE4.c5
    have f5:=fun n:Up W4=>(hE4.up n).c5
    have c6:=hE4.c6
    have f6:=fun n:Up W4=>(hE4.up n).c6
    clear hE3 hb4
    repeat (refine mix_q rfl ?_;go_big_quiet_step (fail);refine wpQuiet_nil ?_)
    by_cases hq:0≤qty∧qty≤0
    ·skip
     refine mix_n rfl ?_
     go_wp2_with fail
     refine (within1_yes qty 0 0 a2 b2 _ ca2 cb2 (by omega) (by omega)).mono ?_
     rintro e w' ⟨rfl,hw⟩
     subst w'
     go_wp2_with fail
     refine ⟨rfl,Below.refl _ _,?_⟩
     repeat (refine mix_q rfl ?_;go_big_quiet_step (fail);refine wpQuiet_nil ?_)
     refine mix_n rfl ?_
     go_wp2_with fail
     refine (within_at 1 100000000000 _).mono ?_
     rintro e W5 ⟨a5,b5,rfl,ca5,cb5,hb5⟩
     go_wp2_with fail
     refine ⟨rfl,hb5,?_⟩
     clear c1 f1 c2 f2 c3 f3 c4 f4 c5 f5 c6 f6
     have hE5:=hE4.below hb5
     have hB5:=hB4.trans (hb5.mono hB4.size)
     have ca2':=below_cell hb5 ca2
     have cb2':=below_cell hb5 cb2
     clear ca2 cb2
     have ca2:=ca2';have cb2:=cb2';clear ca2' cb2'
     have ca3':=below_cell hb5 ca3
     have cb3':=below_cell hb5 cb3
     clear ca3 cb3
     have ca3:=ca3';have cb3:=cb3';clear ca3' cb3'
     have c1:=hE5.c1
     have f1:=fun n:Up W5=>(hE5.up n).c1
     have c2:=hE5.c2
     have f2:=fun n:Up W5=>(hE5.up n).c2
     have c3:=hE5.c3
     have f3:=fun n:Up W5=>(hE5.up n).c3
     have c4:=hE5.c4
     have f4:=fun n:Up W5=>(hE5.up n).c4
     have c5:=hE5.c5
     have f5:=fun n:Up W5=>(hE5.up n).c5
     have c6:=hE5.c6
     have f6:=fun n:Up W5=>(hE5.up n).c6
     clear hE4 hb5
     repeat (refine mix_q rfl ?_;go_big_quiet_step (fail);refine wpQuiet_nil ?_)
     by_cases hp:1≤price∧price≤100000000000
     ·skip
      refine mix_n rfl ?_
      go_wp2_with fail
      refine (within1_yes price 1 100000000000 a5 b5 _ ca5 cb5 (by omega) (by omega)).mono ?_
      rintro e w' ⟨rfl,hw⟩
      subst w'
      go_wp2_with fail
      refine ⟨rfl,Below.refl _ _,?_⟩
      repeat (refine mix_q rfl ?_;go_big_quiet_step (fail);refine wpQuiet_nil ?_)
      refine mix_n rfl ?_
      go_wp2_with fail
      refine (within_at 1 9223372036854775807 _).mono ?_
      rintro e W6 ⟨a6,b6,rfl,ca6,cb6,hb6⟩
      go_wp2_with fail
      refine ⟨rfl,hb6,?_⟩
      clear c1 f1 c2 f2 c3 f3 c4 f4 c5 f5 c6 f6
      have hE6:=hE5.below hb6
      have hB6:=hB5.trans (hb6.mono hB5.size)
      have ca2':=below_cell hb6 ca2
      have cb2':=below_cell hb6 cb2
      clear ca2 cb2
      have ca2:=ca2';have cb2:=cb2';clear ca2' cb2'
      have ca3':=below_cell hb6 ca3
      have cb3':=below_cell hb6 cb3
      clear ca3 cb3
      have ca3:=ca3';have cb3:=cb3';clear ca3' cb3'
      have c1:=hE6.c1
      have f1:=fun n:Up W6=>(hE6.up n).c1
      have c2:=hE6.c2
      have f2:=fun n:Up W6=>(hE6.up n).c2
      have c3:=hE6.c3
      have f3:=fun n:Up W6=>(hE6.up n).c3
      have c4:=hE6.c4
      have f4:=fun n:Up W6=>(hE6.up n).c4
      have c5:=hE6.c5
      have f5:=fun n:Up W6=>(hE6.up n).c5
      have c6:=hE6.c6
      have f6:=fun n:Up W6=>(hE6.up n).c6
      clear hE5 hb6
      repeat (refine mix_q rfl ?_;go_big_quiet_step (fail);refine wpQuiet_nil ?_)
      by_cases ho2:1≤ofI∧ofI≤9223372036854775807
      ·skip
       refine mix_n rfl ?_
       go_wp2_with fail
       refine (within1_yes ofI 1 9223372036854775807 a6 b6 _ ca6 cb6 (by omega) (by omega)).mono ?_
       rintro e w' ⟨rfl,hw⟩
       subst w'
       go_wp2_with fail
       refine ⟨rfl,Below.refl _ _,?_⟩
       repeat (refine mix_q rfl ?_;go_big_quiet_step (fail);refine wpQuiet_nil ?_)
       refine mix_nil ?_
       go_wp2
       go_ret
       refine ⟨⟨true,rfl,?_⟩,hB6⟩
       exact ⟨fun _=>⟨HN.out,⟨hd0,hd1⟩,.inr (.inl ⟨rfl,(show qty=0 by omega),hp,ho2⟩)⟩,fun _=>rfl⟩
      ·skip
       refine mix_n rfl ?_
       go_wp2_with fail
       refine (within1_no ofI 1 9223372036854775807 a6 b6 _ ca6 cb6 (by omega)).mono ?_
       rintro e w' ⟨rfl,hw⟩
       subst w'
       go_wp2_with fail
       refine ⟨rfl,Below.refl _ _,?_⟩
       repeat (refine mix_q rfl ?_;go_big_quiet_step (fail);refine wpQuiet_nil ?_)
       refine mix_nil ?_
       go_wp2
       go_ret
       refine ⟨⟨false,rfl,?_⟩,hB6⟩
       exact ⟨fun h=>(by cases h),fun h=>(by have hk:=h.2.2;unfold rtK at hk;simp only at hk;omega)⟩
     ·skip
      refine mix_n rfl ?_
      go_wp2_with fail
      refine (within1_no price 1 100000000000 a5 b5 _ ca5 cb5 (by omega)).mono ?_
      rintro e w' ⟨rfl,hw⟩
      subst w'
      go_wp2_with fail
      refine ⟨rfl,Below.refl _ _,?_⟩
      repeat (refine mix_q rfl ?_;go_big_quiet_step (fail);refine wpQuiet_nil ?_)
      refine mix_n rfl ?_
      go_wp2_with fail
      refine ⟨rfl,Below.refl _ _,?_⟩
      refine mix_n rfl ?_
      go_wp2_with fail
      refine ⟨rfl,Below.refl _ _,?_⟩
      repeat (refine mix_q rfl ?_;go_big_quiet_step (fail);refine wpQuiet_nil ?_)
      refine mix_nil ?_
      go_wp2
      go_ret
      refine ⟨⟨false,rfl,?_⟩,hB5⟩
      exact ⟨fun h=>(by cases h),fun h=>(by have hk:=h.2.2;unfold rtK at hk;simp only at hk;omega)⟩
    ·skip
     refine mix_n rfl ?_
     go_wp2_with fail
     refine (within1_no qty 0 0 a2 b2 _ ca2 cb2 (by omega)).mono ?_
     rintro e w' ⟨rfl,hw⟩
     subst w'
     go_wp2_with fail
     refine ⟨rfl,Below.refl _ _,?_⟩
     repeat (refine mix_q rfl ?_;go_big_quiet_step (fail);refine wpQuiet_nil ?_)
     refine mix_n rfl ?_
     go_wp2_with fail
     refine ⟨rfl,Below.refl _ _,?_⟩
     refine mix_n rfl ?_
     go_wp2_with fail
     refine ⟨rfl,Below.refl _ _,?_⟩
     repeat (refine mix_q rfl ?_;go_big_quiet_step (fail);refine wpQuiet_nil ?_)
     refine mix_n rfl ?_
     go_wp2_with fail
     refine ⟨rfl,Below.refl _ _,?_⟩
     refine mix_n rfl ?_
     go_wp2_with fail
     refine ⟨rfl,Below.refl _ _,?_⟩
     repeat (refine mix_q rfl ?_;go_big_quiet_step (fail);refine wpQuiet_nil ?_)
     refine mix_nil ?_
     go_wp2
     go_ret
     refine ⟨⟨false,rfl,?_⟩,hB4⟩
     exact ⟨fun h=>(by cases h),fun h=>(by have hk:=h.2.2;unfold rtK at hk;simp only at hk;omega)⟩
   by_cases k3:kind=3
   ·subst k3
    by_cases hq:1≤qty∧qty≤100000
    ·skip
     go_wp2_with fail
     refine (within1_yes qty 1 100000 a3 b3 _ ca3 cb3 (by omega) (by omega)).mono ?_
     rintro e w' ⟨rfl,hw⟩
     subst w'
     by_cases hp:0≤price∧price≤0
     ·skip
      go_wp2_with fail
      refine (within1_yes price 0 0 a2 b2 _ ca2 cb2 (by omega) (by omega)).mono ?_
      rintro e w' ⟨rfl,hw⟩
      subst w'
      by_cases ho2:0≤ofI∧ofI≤0
      ·skip
       go_wp2_with fail
       refine (within1_yes ofI 0 0 a2 b2 _ ca2 cb2 (by omega) (by omega)).mono ?_
       rintro e w' ⟨rfl,hw⟩
       subst w'
       go_wp2
       go_ret
       refine ⟨⟨true,rfl,?_⟩,hB3⟩
       exact ⟨fun _=>⟨HN.out,⟨hd0,hd1⟩,.inr (.inr (.inl ⟨rfl,hq,(show price=0 by omega),(show ofI=0 by omega)⟩))⟩,fun _=>rfl⟩
      ·skip
       go_wp2_with fail
       refine (within1_no ofI 0 0 a2 b2 _ ca2 cb2 (by omega)).mono ?_
       rintro e w' ⟨rfl,hw⟩
       subst w'
       go_wp2
       go_ret
       refine ⟨⟨false,rfl,?_⟩,hB3⟩
       exact ⟨fun h=>(by cases h),fun h=>(by have hk:=h.2.2;unfold rtK at hk;simp only at hk;omega)⟩
     ·skip
      go_wp2_with fail
      refine (within1_no price 0 0 a2 b2 _ ca2 cb2 (by omega)).mono ?_
      rintro e w' ⟨rfl,hw⟩
      subst w'
      go_wp2
      go_ret
      refine ⟨⟨false,rfl,?_⟩,hB3⟩
      exact ⟨fun h=>(by cases h),fun h=>(by have hk:=h.2.2;unfold rtK at hk;simp only at hk;omega)⟩
    ·skip
     go_wp2_with fail
     refine (within1_no qty 1 100000 a3 b3 _ ca3 cb3 (by omega)).mono ?_
     rintro e w' ⟨rfl,hw⟩
     subst w'
     go_wp2
     go_ret
     refine ⟨⟨false,rfl,?_⟩,hB3⟩
     exact ⟨fun h=>(by cases h),fun h=>(by have hk:=h.2.2;unfold rtK at hk;simp only at hk;omega)⟩
   by_cases k4:kind=4
   ·subst k4
    go_wp2_with fail
    refine wp_region_mix [(true,1),(true,2),(false,0),(false,3),(true,4),(true,5),(true,6),(true,7),(false,8),(true,9),(true,10),(true,11),(true,12),(true,13),(false,14),(true,15),(true,16)] (by kernel_rfl) (by kernel_rfl) ?_
    obtain ⟨W4,hW⟩:∃ W,W=W3.drew:=⟨_,rfl⟩
    rw [← hW]
    have hb4:Below W3.heap.size W3 W4:=by rw [hW];exact below_drew _
    clear hW
    clear c1 f1 c2 f2 c3 f3 c4 f4 c5 f5 c6 f6
    have hE4:=hE3.below hb4
    have hB4:=hB3.trans (hb4.mono hB3.size)
    have ca2':=below_cell hb4 ca2;have cb2':=below_cell hb4 cb2;clear ca2 cb2;have ca2:=ca2';have cb2:=cb2';clear ca2' cb2'
    have ca3':=below_cell hb4 ca3;have cb3':=below_cell hb4 cb3;clear ca3 cb3;have ca3:=ca3';have cb3:=cb3';clear ca3' cb3'
    have c1:=hE4.c1
    have f1:=fun n:Up W4=>(hE4.up n).c1
    have c2:=hE4.c2
    have f2:=fun n:Up W4=>(hE4.up n).c2
    have c3:=hE4.c3
    have f3:=fun n:Up W4=>(hE4.up n).c3
    have c4:=hE4.c4
    have f4:=fun n:Up W4=>(hE4.up n).c4
    have c5:=hE4.c5
    have f5:=fun n:Up W4=>(hE4.up n).c5
    have c6:=hE4.c6
    have f6:=fun n:Up W4=>(hE4.up n).c6
    clear hE3 hb4
    repeat (refine mix_q rfl ?_;go_big_quiet_step (fail);refine wpQuiet_nil ?_)
    refine mix_n rfl ?_
    go_wp2_with fail
    refine (within_at 0 100000 _).mono ?_
    rintro e W5 ⟨a5,b5,rfl,ca5,cb5,hb5⟩
    go_wp2_with fail
    refine ⟨rfl,hb5,?_⟩
    clear c1 f1 c2 f2 c3 f3 c4 f4 c5 f5 c6 f6
    have hE5:=hE4.below hb5
    have hB5:=hB4.trans (hb5.mono hB4.size)
    have ca2':=below_cell hb5 ca2
    have cb2':=below_cell hb5 cb2
    clear ca2 cb2
    have ca2:=ca2';have cb2:=cb2';clear ca2' cb2'
    have ca3':=below_cell hb5 ca3
    have cb3':=below_cell hb5 cb3
    clear ca3 cb3
    have ca3:=ca3';have cb3:=cb3';clear ca3' cb3'
    have c1:=hE5.c1
    have f1:=fun n:Up W5=>(hE5.up n).c1
    have c2:=hE5.c2
    have f2:=fun n:Up W5=>(hE5.up n).c2
    have c3:=hE5.c3
    have f3:=fun n:Up W5=>(hE5.up n).c3
    have c4:=hE5.c4
    have f4:=fun n:Up W5=>(hE5.up n).c4
    have c5:=hE5.c5
    have f5:=fun n:Up W5=>(hE5.up n).c5
    have c6:=hE5.c6
    have f6:=fun n:Up W5=>(hE5.up n).c6
    clear hE4 hb5
    repeat (refine mix_q rfl ?_;go_big_quiet_step (fail);refine wpQuiet_nil ?_)
    by_cases hq:0≤qty∧qty≤100000
    ·skip
     refine mix_n rfl ?_
     go_wp2_with fail
     refine (within1_yes qty 0 100000 a5 b5 _ ca5 cb5 (by omega) (by omega)).mono ?_
     rintro e w' ⟨rfl,hw⟩
     subst w'
     go_wp2_with fail
     refine ⟨rfl,Below.refl _ _,?_⟩
     repeat (refine mix_q rfl ?_;go_big_quiet_step (fail);refine wpQuiet_nil ?_)
     by_cases hp:0≤price∧price≤0
     ·skip
      refine mix_n rfl ?_
      go_wp2_with fail
      refine (within1_yes price 0 0 a2 b2 _ ca2 cb2 (by omega) (by omega)).mono ?_
      rintro e w' ⟨rfl,hw⟩
      subst w'
      go_wp2_with fail
      refine ⟨rfl,Below.refl _ _,?_⟩
      repeat (refine mix_q rfl ?_;go_big_quiet_step (fail);refine wpQuiet_nil ?_)
      by_cases ho2:0≤ofI∧ofI≤0
      ·skip
       refine mix_n rfl ?_
       go_wp2_with fail
       refine (within1_yes ofI 0 0 a2 b2 _ ca2 cb2 (by omega) (by omega)).mono ?_
       rintro e w' ⟨rfl,hw⟩
       subst w'
       go_wp2_with fail
       refine ⟨rfl,Below.refl _ _,?_⟩
       repeat (refine mix_q rfl ?_;go_big_quiet_step (fail);refine wpQuiet_nil ?_)
       refine mix_nil ?_
       go_wp2
       go_ret
       refine ⟨⟨true,rfl,?_⟩,hB5⟩
       exact ⟨fun _=>⟨HN.out,⟨hd0,hd1⟩,.inr (.inr (.inr ⟨rfl,hq,(show price=0 by omega),(show ofI=0 by omega)⟩))⟩,fun _=>rfl⟩
      ·skip
       refine mix_n rfl ?_
       go_wp2_with fail
       refine (within1_no ofI 0 0 a2 b2 _ ca2 cb2 (by omega)).mono ?_
       rintro e w' ⟨rfl,hw⟩
       subst w'
       go_wp2_with fail
       refine ⟨rfl,Below.refl _ _,?_⟩
       repeat (refine mix_q rfl ?_;go_big_quiet_step (fail);refine wpQuiet_nil ?_)
       refine mix_nil ?_
       go_wp2
       go_ret
       refine ⟨⟨false,rfl,?_⟩,hB5⟩
       exact ⟨fun h=>(by cases h),fun h=>(by have hk:=h.2.2;unfold rtK at hk;simp only at hk;omega)⟩
     ·skip
      refine mix_n rfl ?_
      go_wp2_with fail
      refine (within1_no price 0 0 a2 b2 _ ca2 cb2 (by omega)).mono ?_
      rintro e w' ⟨rfl,hw⟩
      subst w'
      go_wp2_with fail
      refine ⟨rfl,Below.refl _ _,?_⟩
      repeat (refine mix_q rfl ?_;go_big_quiet_step (fail);refine wpQuiet_nil ?_)
      refine mix_n rfl ?_
      go_wp2_with fail
      refine ⟨rfl,Below.refl _ _,?_⟩
      repeat (refine mix_q rfl ?_;go_big_quiet_step (fail);refine wpQuiet_nil ?_)
      refine mix_nil ?_
      go_wp2
      go_ret
      refine ⟨⟨false,rfl,?_⟩,hB5⟩
      exact ⟨fun h=>(by cases h),fun h=>(by have hk:=h.2.2;unfold rtK at hk;simp only at hk;omega)⟩
    ·skip
     refine mix_n rfl ?_
     go_wp2_with fail
     refine (within1_no qty 0 100000 a5 b5 _ ca5 cb5 (by omega)).mono ?_
     rintro e w' ⟨rfl,hw⟩
     subst w'
     go_wp2_with fail
     refine ⟨rfl,Below.refl _ _,?_⟩
     repeat (refine mix_q rfl ?_;go_big_quiet_step (fail);refine wpQuiet_nil ?_)
     refine mix_n rfl ?_
     go_wp2_with fail
     refine ⟨rfl,Below.refl _ _,?_⟩
     repeat (refine mix_q rfl ?_;go_big_quiet_step (fail);refine wpQuiet_nil ?_)
     refine mix_n rfl ?_
     go_wp2_with fail
     refine ⟨rfl,Below.refl _ _,?_⟩
     repeat (refine mix_q rfl ?_;go_big_quiet_step (fail);refine wpQuiet_nil ?_)
     refine mix_nil ?_
     go_wp2
     go_ret
     refine ⟨⟨false,rfl,?_⟩,hB5⟩
     exact ⟨fun h=>(by cases h),fun h=>(by have hk:=h.2.2;unfold rtK at hk;simp only at hk;omega)⟩
   go_wp2
   go_ret
   refine ⟨⟨false,rfl,?_⟩,hB3⟩
   exact ⟨fun h=>(by cases h),fun h=>(by have hk:=h.2.2;unfold rtK at hk;simp only at hk;omega)⟩
  ·skip
   refine mix_n rfl ?_
   go_wp2_with fail
   refine (within1_no day 0 99999 a1 b1 _ ca1 cb1 (by omega)).mono ?_
   rintro e w' ⟨rfl,hw⟩
   subst w'
   go_wp2_with fail
   refine ⟨rfl,Below.refl _ _,?_⟩
   repeat (refine mix_q rfl ?_;go_big_quiet_step (fail);refine wpQuiet_nil ?_)
   refine mix_nil ?_
   go_wp2
   go_ret
   refine ⟨⟨false,rfl,?_⟩,hB1⟩
   exact ⟨fun h=>(by cases h),fun h=>absurd h.2.1 hd⟩
def cmpI (x y:Int):Int:=if x < y then -1 else if y < x then 1 else 0
def orI (x y z:Int):Int:=if x=0 then (if y=0 then z else y) else x
def cmpE (a b:Ev):Int:=orI (cmpI a.day b.day) (cmpI a.kind b.kind) (cmpI a.id b.id)
theorem nan_any (x:Int) (w:World):Calls Tryz.prog 121 #[.int .i64 x] w fun e w'=>e = .returned (.bool false)∧w'=w:=by
 go_enter Tryz.func121,Tryz.ntmps121
 go_wp2
 go_ret
 exact ⟨rfl,rfl⟩
theorem cmp_any (x y:Int) (w:World):Calls Tryz.prog 72 #[.int .i64 x,.int .i64 y] w fun e w'=>e = .returned (.int .i64 (cmpI x y))∧w'=w:=by
 by_cases h1:x < y
 ·have e:cmpI x y = -1:=by unfold cmpI;rw [if_pos h1]
  rw [e]
  clear e
  go_enter Tryz.func72,Tryz.ntmps72
  go_wp2_with (go_at_call 121;refine (nan_any _ _).mono ?_;rintro e w' ⟨rfl,rfl⟩)
  go_ret
  exact ⟨rfl,rfl⟩
 ·by_cases h2:y < x
  ·have e:cmpI x y=1:=by unfold cmpI;rw [if_neg h1,if_pos h2]
   rw [e]
   clear e
   go_enter Tryz.func72,Tryz.ntmps72
   go_wp2_with (go_at_call 121;refine (nan_any _ _).mono ?_;rintro e w' ⟨rfl,rfl⟩)
   go_ret
   exact ⟨rfl,rfl⟩
  ·have e:cmpI x y=0:=by unfold cmpI;rw [if_neg h1,if_neg h2]
   rw [e]
   clear e
   go_enter Tryz.func72,Tryz.ntmps72
   go_wp2_with (go_at_call 121;refine (nan_any _ _).mono ?_;rintro e w' ⟨rfl,rfl⟩)
   go_ret
   exact ⟨rfl,rfl⟩
set_option maxHeartbeats 1000000 in
theorem or_any (x y z:Int) (b:Nat) (w:World) (hx:w.cell? ⟨b,0,none⟩=some (.int .i64 x)) (hy:w.cell? ⟨b,1,none⟩=some (.int .i64 y)) (hz:w.cell? ⟨b,2,none⟩=some (.int .i64 z)) :
  Calls Tryz.prog 71 #[.slice (some ⟨b,0,none⟩) 3 3] w fun e w'=>e = .returned (.int .i64 (orI x y z))∧w'=w:=by
 by_cases h1:x=0
 ·by_cases h2:y=0
  ·by_cases h3:z=0
   ·have e:orI x y z=0:=by unfold orI;rw [if_pos h1,if_pos h2];exact h3
    rw [e]
    subst h1 h2 h3
    clear e
    go_enter Tryz.func71,Tryz.ntmps71
    go_wp2
    refine wp_loop_rounds 4 ?_
    rw [rounds_succ]
    go_wp2
    rw [rounds_succ]
    go_wp2
    rw [rounds_succ]
    go_wp2
    rw [rounds_succ]
    go_wp2
    go_ret
    exact ⟨rfl,rfl⟩
   ·have e:orI x y z=z:=by unfold orI;rw [if_pos h1,if_pos h2]
    rw [e]
    subst h1 h2
    clear e
    go_enter Tryz.func71,Tryz.ntmps71
    go_wp2
    refine wp_loop_rounds 3 ?_
    rw [rounds_succ]
    go_wp2
    rw [rounds_succ]
    go_wp2
    rw [rounds_succ]
    go_wp2
    go_ret
    exact ⟨rfl,rfl⟩
  ·have e:orI x y z=y:=by unfold orI;rw [if_pos h1,if_neg h2]
   rw [e]
   subst h1
   clear e
   go_enter Tryz.func71,Tryz.ntmps71
   go_wp2
   refine wp_loop_rounds 2 ?_
   rw [rounds_succ]
   go_wp2
   rw [rounds_succ]
   go_wp2
   go_ret
   exact ⟨rfl,rfl⟩
 ·have e:orI x y z=x:=by unfold orI;rw [if_neg h1]
  rw [e]
  clear e
  go_enter Tryz.func71,Tryz.ntmps71
  go_wp2
  refine wp_loop_rounds 1 ?_
  rw [rounds_succ]
  go_wp2
  go_ret
  exact ⟨rfl,rfl⟩
end Go.Proofs.YtdkhohlhdiekmaaGreatDoor
