/-  -/
import Derived.Test.YtdkhohlhdiekmaaGreatDoorBnC
import Derived.Test.YtdkhohlhdiekmaaGreatDoorBnA
import Derived.Test.YtdkhohlhdiekmaaGreatDoorBnSy
import Derived.Test.YtdkhohlhdiekmaaGreatDoorBnI
import Derived.Test.YtdkhohlhdiekmaaGreatDoorBnD
import Derived.Shelf.GgSortFunc.SmallK
import Derived.Lib.ReflectliteSlice
import Derived.Test.YtdkhohlhdiekmaaGreatDoorEvInfo
namespace Go.Proofs.YtdkhohlhdiekmaaGreatDoor
open Go.RowKit
def Ahd (a b:Ev):Prop:=a.day < b.day∨(a.day=b.day∧(a.kind < b.kind∨(a.kind=b.kind∧a.id < b.id)))
set_option maxHeartbeats 2000000 in
theorem ahead_any (a b:Ev) (w:World) :
  Calls Tryz.prog 75 #[evV a,evV b] w fun x w'=>Tells x (Ahd a b)∧Below w.heap.size w w':=by
 obtain ⟨id,item,kind,qty,price,ofI,day⟩:=a
 obtain ⟨id2,item2,kind2,qty2,price2,ofI2,day2⟩:=b
 have hb:Below w.heap.size w ((w.alloc (.cells #[.int .i64 id,.string item,.int .i64 kind,.int .i64 qty,.int .i64 price,.int .i64 ofI,.int .i64 day] 78)).alloc (.cells #[.int .i64 id2,.string item2,.int .i64 kind2,.int .i64 qty2,.int .i64 price2,.int .i64 ofI2,.int .i64 day2] 78)):=((Below.refl _ _).alloc (Nat.le_refl _) _).alloc (by simp) _
 unfold evV
 simp only
 by_cases h1:day=day2
 ·by_cases h2:kind=kind2
  ·subst h1 h2
   go_enter Tryz.func75,Tryz.ntmps75
   go_wp2
   go_ret
   refine ⟨⟨decide (id < id2),rfl,?_⟩,hb⟩
   unfold Ahd
   simp
  ·subst h1
   go_enter Tryz.func75,Tryz.ntmps75
   go_wp2
   go_ret
   refine ⟨⟨decide (kind < kind2),rfl,?_⟩,hb⟩
   unfold Ahd
   simp
   omega
 ·go_enter Tryz.func75,Tryz.ntmps75
  go_wp2
  go_ret
  refine ⟨⟨decide (day < day2),rfl,?_⟩,hb⟩
  unfold Ahd
  simp
  omega
set_option maxHeartbeats 2000000 in
theorem rname_any (s:ByteArray) (w:World) (hs:s.size≤maxLen) :
  Calls Tryz.prog 138 #[.string s] w fun e w'=>Tells e (isName s.data.toList)∧w'=w:=by
 unfold maxLen at hs
 go_enter Tryz.func138,Tryz.ntmps138
 go_wp2
 go_loop [7] (fun i=>∃ k:Nat,k≤s.size∧i = .int .i64 k∧∀ (j:Nat) (hj:j < s.size),j < k→isLet s[j]∨(j ≠ 0∧isDig s[j])) (fun i=>s.size - (intOf i).toNat)
 case atStart=>exact ⟨0,Nat.zero_le _,rfl,fun j _ hj=>by omega⟩
 case round=>
  obtain ⟨k,hk,rfl,hall⟩:=hrel
  have HA:=hidE hall
  clear hall
  by_cases hlt:k < s.size
  ·have hck:s[k].toNat < 256:=s[k].toNat_lt
   by_cases a1:97≤s[k].toNat∧s[k].toNat≤122
   ·obtain ⟨a1l,a1h⟩:=a1
    have b2:decide ((s[k].toNat:Int)≤122)=true:=decide_eq_true (by omega)
    go_wp2
    go_round
    case rel=>exact ⟨k + 1,by omega,by go_num,fun j hj hjk=>by
     by_cases e:j=k
     ·subst e;exact .inl ⟨a1l,a1h⟩
     ·exact HA.out j hj (by omega)⟩
    case measure=>simp [intOf];omega
   ·by_cases k0:k=0
    ·subst k0
     have HF:Hid (¬ isName s.data.toList):=fun h=>absurd (h.2.1 _ (ehead_is s hlt)) a1
     by_cases b1:97≤s[0].toNat
     ·have b2:decide ((s[0].toNat:Int)≤122)=false:=decide_eq_false (by omega)
      clear a1
      go_wp2
      go_ret
      exact ⟨⟨false,rfl,⟨fun h=>(by cases h),fun h=>absurd h HF.out⟩⟩,rfl⟩
     ·clear a1
      go_wp2
      go_ret
      exact ⟨⟨false,rfl,⟨fun h=>(by cases h),fun h=>absurd h HF.out⟩⟩,rfl⟩
    ·by_cases a2:48≤s[k].toNat∧s[k].toNat≤57
     ·obtain ⟨a2l,a2h⟩:=a2
      have b1:¬ 97≤s[k].toNat:=by omega
      have b4:decide ((s[k].toNat:Int)≤57)=true:=decide_eq_true (by omega)
      have k9:¬ (k:Int)=0:=by omega
      clear a1
      go_wp2
      go_round
      case rel=>exact ⟨k + 1,by omega,by go_num,fun j hj hjk=>by
       by_cases e:j=k
       ·subst e;exact .inr ⟨k0,a2l,a2h⟩
       ·exact HA.out j hj (by omega)⟩
      case measure=>simp [intOf];omega
     ·have HF:Hid (¬ isName s.data.toList):=fun h=>by
       rcases h.2.2 _ (at_mem s k hlt) with h | h
       ·exact absurd h a1
       ·exact absurd h a2
      by_cases b1:97≤s[k].toNat
      ·have b2:decide ((s[k].toNat:Int)≤122)=false:=decide_eq_false (by omega)
       have b3:48≤s[k].toNat:=by omega
       have b4:decide ((s[k].toNat:Int)≤57)=false:=decide_eq_false (by omega)
       have k9:¬ (k:Int)=0:=by omega
       clear a1 a2
       go_wp2
       go_ret
       exact ⟨⟨false,rfl,⟨fun h=>(by cases h),fun h=>absurd h HF.out⟩⟩,rfl⟩
      ·by_cases b3:48≤s[k].toNat
       ·have b4:decide ((s[k].toNat:Int)≤57)=false:=decide_eq_false (by omega)
        have k9:¬ (k:Int)=0:=by omega
        clear a1 a2
        go_wp2
        go_ret
        exact ⟨⟨false,rfl,⟨fun h=>(by cases h),fun h=>absurd h HF.out⟩⟩,rfl⟩
       ·have k9:¬ (k:Int)=0:=by omega
        clear a1 a2
        go_wp2
        go_ret
        exact ⟨⟨false,rfl,⟨fun h=>(by cases h),fun h=>absurd h HF.out⟩⟩,rfl⟩
  ·have HN:Hid (1≤s.size→s.size≤10→isName s.data.toList):=by
    intro h1 h2
    refine ⟨⟨by rw [eba_len];exact h1,by rw [eba_len];exact h2⟩,?_,?_⟩
    ·intro c hc
     rw [ehead_is s (by omega)] at hc
     cases hc
     rcases HA.out 0 (by omega) (by omega) with h | h
     ·exact h
     ·exact absurd rfl h.1
    ·intro c hc
     obtain ⟨j,hj,rfl⟩:=mem_at s c hc
     rcases HA.out j hj (by omega) with h | h
     ·exact .inl h
     ·exact .inr h.2
   clear HA
   by_cases hin:1≤s.size∧s.size≤10
   ·go_wp2_with fail
    refine (in_yes (s.size:Int) 1 10 _ (by omega) (by omega)).mono ?_
    rintro e w' ⟨rfl,hw⟩
    subst w'
    go_wp2
    go_ret
    exact ⟨⟨true,rfl,⟨fun _=>HN.out hin.1 hin.2,fun _=>rfl⟩⟩,rfl⟩
   ·go_wp2_with fail
    refine (in_no (s.size:Int) 1 10 _ (by omega)).mono ?_
    rintro e w' ⟨rfl,hw⟩
    subst w'
    go_wp2
    go_ret
    exact ⟨⟨false,rfl,⟨fun h=>(by cases h),fun h=>absurd ⟨by have:=h.1.1;rw [eba_len] at this;exact this,by have:=h.1.2;rw [eba_len] at this;exact this⟩ hin⟩⟩,rfl⟩
set_option maxHeartbeats 8000000 in
theorem rright_any (e:Ev) (w:World) (hw:EvW e) :
  Calls Tryz.prog 93 #[evV e] w fun x w'=>Tells x (Rt e)∧Below w.heap.size w w':=by
 obtain ⟨id,item,kind,qty,price,ofI,day⟩:=e
 obtain ⟨_,hs,_,_,_,ho0,_⟩:=hw
 have ho:ofI≤9223372036854775807:=(int_bd ho0).2
 clear ho0
 unfold evV
 simp only at hs ho ⊢
 by_cases k1:kind=1
 ·subst k1
  have hb:Below w.heap.size w (w.alloc (.cells #[.int .i64 id,.string item,.int .i64 1,.int .i64 qty,.int .i64 price,.int .i64 ofI,.int .i64 day] 78)):=(Below.refl _ _).alloc (Nat.le_refl _) _
  by_cases hq:1≤qty∧qty≤100000
  ·skip
   by_cases hp:0≤price∧price≤1000000
   ·skip
    by_cases ho2:ofI=0
    ·subst ho2
     go_enter Tryz.func93,Tryz.ntmps93
     go_wp2_with fail
     refine (in_yes qty 1 100000 _ (by omega) (by omega)).mono ?_
     rintro e w' ⟨rfl,hw⟩
     subst w'
     go_wp2_with fail
     refine (in_yes price 0 1000000 _ (by omega) (by omega)).mono ?_
     rintro e w' ⟨rfl,hw⟩
     subst w'
     go_wp2_with fail
     refine (rname_any item _ hs).mono ?_
     rintro e w' ⟨⟨b,rfl,hbn⟩,hw⟩
     subst w'
     have HB:=hidE hbn
     clear hbn
     rcases b with _ | _
     ·go_wp2
      go_ret
      exact ⟨⟨false,rfl,⟨fun h=>(by cases h),fun h=>absurd (HB.out.2 h.1) (by simp)⟩⟩,hb⟩
     ·by_cases hd:0≤day∧day≤99999
      ·skip
       go_wp2_with fail
       refine (in_yes day 0 99999 _ (by omega) (by omega)).mono ?_
       rintro e w' ⟨rfl,hw⟩
       subst w'
       go_wp2
       go_ret
       exact ⟨⟨true,rfl,⟨fun _=>⟨HB.out.1 (by trivial),hd,.inl ⟨rfl,hq,hp,rfl⟩⟩,fun _=>rfl⟩⟩,hb⟩
      ·skip
       go_wp2_with fail
       refine (in_no day 0 99999 _ (by omega)).mono ?_
       rintro e w' ⟨rfl,hw⟩
       subst w'
       go_wp2
       go_ret
       exact ⟨⟨false,rfl,⟨fun h=>(by cases h),fun h=>absurd h.2.1 hd⟩⟩,hb⟩
    ·skip
     go_enter Tryz.func93,Tryz.ntmps93
     go_wp2_with fail
     refine (in_yes qty 1 100000 _ (by omega) (by omega)).mono ?_
     rintro e w' ⟨rfl,hw⟩
     subst w'
     go_wp2_with fail
     refine (in_yes price 0 1000000 _ (by omega) (by omega)).mono ?_
     rintro e w' ⟨rfl,hw⟩
     subst w'
     go_wp2
     go_ret
     exact ⟨⟨false,rfl,⟨fun h=>(by cases h),fun h=>(by have hk:=h.2.2;unfold rtK at hk;simp only at hk;omega)⟩⟩,hb⟩
   ·skip
    go_enter Tryz.func93,Tryz.ntmps93
    go_wp2_with fail
    refine (in_yes qty 1 100000 _ (by omega) (by omega)).mono ?_
    rintro e w' ⟨rfl,hw⟩
    subst w'
    go_wp2_with fail
    refine (in_no price 0 1000000 _ (by omega)).mono ?_
    rintro e w' ⟨rfl,hw⟩
    subst w'
    go_wp2
    go_ret
    exact ⟨⟨false,rfl,⟨fun h=>(by cases h),fun h=>(by have hk:=h.2.2;unfold rtK at hk;simp only at hk;omega)⟩⟩,hb⟩
  ·skip
   go_enter Tryz.func93,Tryz.ntmps93
   go_wp2_with fail
   refine (in_no qty 1 100000 _ (by omega)).mono ?_
   rintro e w' ⟨rfl,hw⟩
   subst w'
   go_wp2
   go_ret
   exact ⟨⟨false,rfl,⟨fun h=>(by cases h),fun h=>(by have hk:=h.2.2;unfold rtK at hk;simp only at hk;omega)⟩⟩,hb⟩
 by_cases k2:kind=2
 ·subst k2
  have hb:Below w.heap.size w (w.alloc (.cells #[.int .i64 id,.string item,.int .i64 2,.int .i64 qty,.int .i64 price,.int .i64 ofI,.int .i64 day] 78)):=(Below.refl _ _).alloc (Nat.le_refl _) _
  by_cases hq:qty=0
  ·subst hq
   by_cases hp:1≤price∧price≤100000000000
   ·skip
    by_cases ho2:0 < ofI
    ·skip
     go_enter Tryz.func93,Tryz.ntmps93
     go_wp2_with fail
     refine (in_yes price 1 100000000000 _ (by omega) (by omega)).mono ?_
     rintro e w' ⟨rfl,hw⟩
     subst w'
     go_wp2_with fail
     refine (rname_any item _ hs).mono ?_
     rintro e w' ⟨⟨b,rfl,hbn⟩,hw⟩
     subst w'
     have HB:=hidE hbn
     clear hbn
     rcases b with _ | _
     ·go_wp2
      go_ret
      exact ⟨⟨false,rfl,⟨fun h=>(by cases h),fun h=>absurd (HB.out.2 h.1) (by simp)⟩⟩,hb⟩
     ·by_cases hd:0≤day∧day≤99999
      ·skip
       go_wp2_with fail
       refine (in_yes day 0 99999 _ (by omega) (by omega)).mono ?_
       rintro e w' ⟨rfl,hw⟩
       subst w'
       go_wp2
       go_ret
       exact ⟨⟨true,rfl,⟨fun _=>⟨HB.out.1 (by trivial),hd,.inr (.inl ⟨rfl,rfl,hp,⟨show 1≤ofI by omega,ho⟩⟩)⟩,fun _=>rfl⟩⟩,hb⟩
      ·skip
       go_wp2_with fail
       refine (in_no day 0 99999 _ (by omega)).mono ?_
       rintro e w' ⟨rfl,hw⟩
       subst w'
       go_wp2
       go_ret
       exact ⟨⟨false,rfl,⟨fun h=>(by cases h),fun h=>absurd h.2.1 hd⟩⟩,hb⟩
    ·skip
     go_enter Tryz.func93,Tryz.ntmps93
     go_wp2_with fail
     refine (in_yes price 1 100000000000 _ (by omega) (by omega)).mono ?_
     rintro e w' ⟨rfl,hw⟩
     subst w'
     go_wp2
     go_ret
     exact ⟨⟨false,rfl,⟨fun h=>(by cases h),fun h=>(by have hk:=h.2.2;unfold rtK at hk;simp only at hk;omega)⟩⟩,hb⟩
   ·skip
    go_enter Tryz.func93,Tryz.ntmps93
    go_wp2_with fail
    refine (in_no price 1 100000000000 _ (by omega)).mono ?_
    rintro e w' ⟨rfl,hw⟩
    subst w'
    go_wp2
    go_ret
    exact ⟨⟨false,rfl,⟨fun h=>(by cases h),fun h=>(by have hk:=h.2.2;unfold rtK at hk;simp only at hk;omega)⟩⟩,hb⟩
  ·skip
   go_enter Tryz.func93,Tryz.ntmps93
   go_wp2
   go_ret
   exact ⟨⟨false,rfl,⟨fun h=>(by cases h),fun h=>(by have hk:=h.2.2;unfold rtK at hk;simp only at hk;omega)⟩⟩,hb⟩
 by_cases k3:kind=3
 ·subst k3
  have hb:Below w.heap.size w (w.alloc (.cells #[.int .i64 id,.string item,.int .i64 3,.int .i64 qty,.int .i64 price,.int .i64 ofI,.int .i64 day] 78)):=(Below.refl _ _).alloc (Nat.le_refl _) _
  by_cases hq:1≤qty∧qty≤100000
  ·skip
   by_cases hp:price=0
   ·subst hp
    by_cases ho2:ofI=0
    ·subst ho2
     go_enter Tryz.func93,Tryz.ntmps93
     go_wp2_with fail
     refine (in_yes qty 1 100000 _ (by omega) (by omega)).mono ?_
     rintro e w' ⟨rfl,hw⟩
     subst w'
     go_wp2_with fail
     refine (rname_any item _ hs).mono ?_
     rintro e w' ⟨⟨b,rfl,hbn⟩,hw⟩
     subst w'
     have HB:=hidE hbn
     clear hbn
     rcases b with _ | _
     ·go_wp2
      go_ret
      exact ⟨⟨false,rfl,⟨fun h=>(by cases h),fun h=>absurd (HB.out.2 h.1) (by simp)⟩⟩,hb⟩
     ·by_cases hd:0≤day∧day≤99999
      ·skip
       go_wp2_with fail
       refine (in_yes day 0 99999 _ (by omega) (by omega)).mono ?_
       rintro e w' ⟨rfl,hw⟩
       subst w'
       go_wp2
       go_ret
       exact ⟨⟨true,rfl,⟨fun _=>⟨HB.out.1 (by trivial),hd,.inr (.inr (.inl ⟨rfl,hq,rfl,rfl⟩))⟩,fun _=>rfl⟩⟩,hb⟩
      ·skip
       go_wp2_with fail
       refine (in_no day 0 99999 _ (by omega)).mono ?_
       rintro e w' ⟨rfl,hw⟩
       subst w'
       go_wp2
       go_ret
       exact ⟨⟨false,rfl,⟨fun h=>(by cases h),fun h=>absurd h.2.1 hd⟩⟩,hb⟩
    ·skip
     go_enter Tryz.func93,Tryz.ntmps93
     go_wp2_with fail
     refine (in_yes qty 1 100000 _ (by omega) (by omega)).mono ?_
     rintro e w' ⟨rfl,hw⟩
     subst w'
     go_wp2
     go_ret
     exact ⟨⟨false,rfl,⟨fun h=>(by cases h),fun h=>(by have hk:=h.2.2;unfold rtK at hk;simp only at hk;omega)⟩⟩,hb⟩
   ·skip
    go_enter Tryz.func93,Tryz.ntmps93
    go_wp2_with fail
    refine (in_yes qty 1 100000 _ (by omega) (by omega)).mono ?_
    rintro e w' ⟨rfl,hw⟩
    subst w'
    go_wp2
    go_ret
    exact ⟨⟨false,rfl,⟨fun h=>(by cases h),fun h=>(by have hk:=h.2.2;unfold rtK at hk;simp only at hk;omega)⟩⟩,hb⟩
  ·skip
   go_enter Tryz.func93,Tryz.ntmps93
   go_wp2_with fail
   refine (in_no qty 1 100000 _ (by omega)).mono ?_
   rintro e w' ⟨rfl,hw⟩
   subst w'
   go_wp2
   go_ret
   exact ⟨⟨false,rfl,⟨fun h=>(by cases h),fun h=>(by have hk:=h.2.2;unfold rtK at hk;simp only at hk;omega)⟩⟩,hb⟩
 by_cases k4:kind=4
 ·subst k4
  have hb:Below w.heap.size w (w.alloc (.cells #[.int .i64 id,.string item,.int .i64 4,.int .i64 qty,.int .i64 price,.int .i64 ofI,.int .i64 day] 78)):=(Below.refl _ _).alloc (Nat.le_refl _) _
  by_cases hq:0≤qty∧qty≤100000
  ·skip
   by_cases hp:price=0
   ·subst hp
    by_cases ho2:ofI=0
    ·subst ho2
     go_enter Tryz.func93,Tryz.ntmps93
     go_wp2_with fail
     refine (in_yes qty 0 100000 _ (by omega) (by omega)).mono ?_
     rintro e w' ⟨rfl,hw⟩
     subst w'
     go_wp2_with fail
     refine (rname_any item _ hs).mono ?_
     rintro e w' ⟨⟨b,rfl,hbn⟩,hw⟩
     subst w'
     have HB:=hidE hbn
     clear hbn
     rcases b with _ | _
     ·go_wp2
      go_ret
      exact ⟨⟨false,rfl,⟨fun h=>(by cases h),fun h=>absurd (HB.out.2 h.1) (by simp)⟩⟩,hb⟩
     ·by_cases hd:0≤day∧day≤99999
      ·skip
       go_wp2_with fail
       refine (in_yes day 0 99999 _ (by omega) (by omega)).mono ?_
       rintro e w' ⟨rfl,hw⟩
       subst w'
       go_wp2
       go_ret
       exact ⟨⟨true,rfl,⟨fun _=>⟨HB.out.1 (by trivial),hd,.inr (.inr (.inr ⟨rfl,hq,rfl,rfl⟩))⟩,fun _=>rfl⟩⟩,hb⟩
      ·skip
       go_wp2_with fail
       refine (in_no day 0 99999 _ (by omega)).mono ?_
       rintro e w' ⟨rfl,hw⟩
       subst w'
       go_wp2
       go_ret
       exact ⟨⟨false,rfl,⟨fun h=>(by cases h),fun h=>absurd h.2.1 hd⟩⟩,hb⟩
    ·skip
     go_enter Tryz.func93,Tryz.ntmps93
     go_wp2_with fail
     refine (in_yes qty 0 100000 _ (by omega) (by omega)).mono ?_
     rintro e w' ⟨rfl,hw⟩
     subst w'
     go_wp2
     go_ret
     exact ⟨⟨false,rfl,⟨fun h=>(by cases h),fun h=>(by have hk:=h.2.2;unfold rtK at hk;simp only at hk;omega)⟩⟩,hb⟩
   ·skip
    go_enter Tryz.func93,Tryz.ntmps93
    go_wp2_with fail
    refine (in_yes qty 0 100000 _ (by omega) (by omega)).mono ?_
    rintro e w' ⟨rfl,hw⟩
    subst w'
    go_wp2
    go_ret
    exact ⟨⟨false,rfl,⟨fun h=>(by cases h),fun h=>(by have hk:=h.2.2;unfold rtK at hk;simp only at hk;omega)⟩⟩,hb⟩
  ·skip
   go_enter Tryz.func93,Tryz.ntmps93
   go_wp2_with fail
   refine (in_no qty 0 100000 _ (by omega)).mono ?_
   rintro e w' ⟨rfl,hw⟩
   subst w'
   go_wp2
   go_ret
   exact ⟨⟨false,rfl,⟨fun h=>(by cases h),fun h=>(by have hk:=h.2.2;unfold rtK at hk;simp only at hk;omega)⟩⟩,hb⟩
 have hb:Below w.heap.size w (w.alloc (.cells #[.int .i64 id,.string item,.int .i64 kind,.int .i64 qty,.int .i64 price,.int .i64 ofI,.int .i64 day] 78)):=(Below.refl _ _).alloc (Nat.le_refl _) _
 go_enter Tryz.func93,Tryz.ntmps93
 go_wp2
 go_ret
 exact ⟨⟨false,rfl,⟨fun h=>(by cases h),fun h=>(by have hk:=h.2.2;unfold rtK at hk;simp only at hk;omega)⟩⟩,hb⟩
end Go.Proofs.YtdkhohlhdiekmaaGreatDoor
namespace Go.Proofs.YtdkhohlhdiekmaaGreatDoor
open Go.RowKit
open Go.Sort hiding Below
open Go.Shelf Go.Lib
theorem own_setCells {B:Nat} {T:TypeId} {m g n cap:Nat}:∀ (vs:List Value) (o:Nat) (w:World) (xs:List Value),w.ownsRow B T m (.slice (some ⟨g,0,none⟩) n cap) n xs→(w.setCells g o vs).ownsRow B T m (.slice (some ⟨g,0,none⟩) n cap) n (setMany xs.toArray o vs).toList
 | [],_,_,_,h=>h
 | v :: r,o,w,xs,h=>by
  have:=own_setCells r (o + 1) _ _ (own_set h o v)
  rw [World.setCells,setMany]
  simpa using this
theorem grown_setCells (g:Nat):∀ (vs:List Value) (o:Nat) (w:World),w.grownBy (w.setCells g o vs) (some g)
 | [],_,w=>grown_refl w _
 | v :: r,o,w=>by
  refine grown_then ?_ (grown_setCells g r (o + 1) _)
  exact ⟨rfl,rfl,rfl,by simp [World.setCell],fun k _ hk=>Below.heap_setCell _ _ _ _ (fun e=>hk (by rw [e]))⟩
structure StE (B blk bo n c:Nat) (W:World) (d:Array Ev):Prop where
 size:d.size=n
 own:W.ownsRow B 78 7 (.slice (some ⟨blk,0,none⟩) n c) n (d.toList.flatMap evC)
 box:W.cell? ⟨bo,0,none⟩=some (.slice (some ⟨blk,0,none⟩) n c)
theorem StE.lt {B blk bo n c:Nat} {W:World} {d:Array Ev} (h:StE B blk bo n c W d):blk < W.heap.size:=(h.own.lt blk rfl).2
theorem StE.cellsAt {B blk bo n c:Nat} {W:World} {d:Array Ev} (h:StE B blk bo n c W d) (i:Nat) (hi:i < n) (j:Nat) (hj:j < 7):W.cell? ⟨blk,i * 7 + j,none⟩=(evC d[i]!)[j]?:=by
 have hs:=h.size
 have:=(own_cell evC_len h.own i j (by simpa using (by omega:i < d.size)) hj).1
 rw [this]
 congr 2
 rw [getElem!_pos d i (by omega)]
 simp
theorem ltA_iff (x y:Ev):ltA x y=true ↔ Ahd x y:=lt_cmp x y
set_option maxRecDepth 20000 in
set_option maxHeartbeats 4000000 in
theorem less_any {B blk bo n c:Nat} {W:World} {d:Array Ev} (h:StE B blk bo n c W d) (_hn:n≤1000000) (i j:Nat) (hi:i < n) (hj:j < n) :
  Calls Tryz.prog 74 #[.int .i64 i,.int .i64 j,.pointer (some ⟨bo,0,none⟩)] W fun e w'=>e = .returned (.bool (ltA d[i]! d[j]!))∧Below W.heap.size W w':=by
 have hci:=fun t ht=>h.cellsAt i hi t ht
 have hcj:=fun t ht=>h.cellsAt j hj t ht
 have hbox:=h.box
 have hsz:=h.size
 generalize hx:d[i]! = x at hci
 generalize hy:d[j]! = y at hcj
 clear h
 obtain ⟨id,item,kind,qty,price,ofI,day⟩:=x
 obtain ⟨id2,item2,kind2,qty2,price2,ofI2,day2⟩:=y
 have hcall:=fun w=>ahead_any ⟨id,item,kind,qty,price,ofI,day⟩ ⟨id2,item2,kind2,qty2,price2,ofI2,day2⟩ w
 have HL:=ltA_iff ⟨id,item,kind,qty,price,ofI,day⟩ ⟨id2,item2,kind2,qty2,price2,ofI2,day2⟩
 generalize ltA ⟨id,item,kind,qty,price,ofI,day⟩ ⟨id2,item2,kind2,qty2,price2,ofI2,day2⟩=lv at HL
 generalize Ahd ⟨id,item,kind,qty,price,ofI,day⟩ ⟨id2,item2,kind2,qty2,price2,ofI2,day2⟩=pp at HL hcall
 have HLL:Hid (lv=true ↔ pp):=HL
 clear HL hx hy
 unfold evV at hcall
 simp only at hcall
 have q0:=hci 0 (by omega)
 have q1:=hci 1 (by omega)
 have q2:=hci 2 (by omega)
 have q3:=hci 3 (by omega)
 have q4:=hci 4 (by omega)
 have q5:=hci 5 (by omega)
 have q6:=hci 6 (by omega)
 have r0:=hcj 0 (by omega)
 have r1:=hcj 1 (by omega)
 have r2:=hcj 2 (by omega)
 have r3:=hcj 3 (by omega)
 have r4:=hcj 4 (by omega)
 have r5:=hcj 5 (by omega)
 have r6:=hcj 6 (by omega)
 simp only [evC,List.getElem?_cons_zero,List.getElem?_cons_succ,Nat.add_zero] at q0 q1 q2 q3 q4 q5 q6 r0 r1 r2 r3 r4 r5 r6
 clear hci hcj
 obtain ⟨W0,hW⟩:∃ x,x=W.drew:=⟨_,rfl⟩
 have hB0:Below W.heap.size W W0:=by rw [hW];exact below_drew _
 have HW:Hid (W0=_):=hW
 have cw:∀ {p:Addr} {v:Value},W.cell? p=some v→W0.cell? p=some v:=fun {p v} hp=>by rw [hW,World.cell?_drew];exact hp
 have hU:=up_ne
 have fb:=fun n:Up W0=>n.cell (cw hbox)
 have f0:=fun n:Up W0=>n.cell (cw q0)
 have f1:=fun n:Up W0=>n.cell (cw q1)
 have f2:=fun n:Up W0=>n.cell (cw q2)
 have f3:=fun n:Up W0=>n.cell (cw q3)
 have f4:=fun n:Up W0=>n.cell (cw q4)
 have f5:=fun n:Up W0=>n.cell (cw q5)
 have f6:=fun n:Up W0=>n.cell (cw q6)
 have g0:=fun n:Up W0=>n.cell (cw r0)
 have g1:=fun n:Up W0=>n.cell (cw r1)
 have g2:=fun n:Up W0=>n.cell (cw r2)
 have g3:=fun n:Up W0=>n.cell (cw r3)
 have g4:=fun n:Up W0=>n.cell (cw r4)
 have g5:=fun n:Up W0=>n.cell (cw r5)
 have g6:=fun n:Up W0=>n.cell (cw r6)
 clear hW cw q0 q1 q2 q3 q4 q5 q6 r0 r1 r2 r3 r4 r5 r6 hbox
 go_enter Tryz.func74,Tryz.ntmps74
 go_wp2_with fail
 refine wp_region_mix [(true,0),(true,1),(true,2),(true,3),(true,4),(true,5),(true,6),(true,7),(false,8),(true,9)] (by kernel_rfl) (by kernel_rfl) ?_
 rw [← HW.out]
 repeat (refine mix_q rfl ?_;go_big_quiet_step (fail);refine wpQuiet_nil ?_)
 refine mix_n rfl ?_
 go_wp2_with fail
 refine (hcall _).mono ?_
 rintro e w1 ⟨⟨bv,rfl,hbv⟩,hb1⟩
 obtain rfl:bv=lv:=by
  have:=HLL.out
  rw [Bool.eq_iff_iff,this]
  exact hbv
 clear f0 f1 f2 f3 f4 f5 f6 g0 g1 g2 g3 g4 g5 g6 fb
 go_wp2_with fail
 refine ⟨rfl,hb1,?_⟩
 repeat (refine mix_q rfl ?_;go_big_quiet_step (fail);refine wpQuiet_nil ?_)
 refine mix_nil ?_
 go_wp2
 go_ret
 exact ⟨rfl,hB0.trans (hb1.mono hB0.size)⟩
noncomputable def Tryz.svT:TypeInfo:=(Tryz.prog.info? 53).get (by kernel_rfl)
noncomputable def Tryz.svE:TypeInfo:=(Tryz.prog.info? 78).get (by kernel_rfl)
theorem Tryz.svTi:Tryz.prog.info? 53=some Tryz.svT:=by kernel_rfl
theorem Tryz.svEi:Tryz.prog.info? 78=some Tryz.svE:=by kernel_rfl
theorem Tryz.svK (n:Nat) (h2:2≤n):Lib.swapperK n Tryz.svE 25=9:=by
 have a:Tryz.svE.hasPointers=true:=by kernel_rfl
 have b:(Tryz.svE.bytes == 8)=false:=by kernel_rfl
 have c:(n == 0)=false:=by simp;omega
 have d:(n == 1)=false:=by simp;omega
 simp [Lib.swapperK,a,b,c,d]
theorem kind_ev (w:World):(Extern.Rtype.kind 78).run Tryz.prog w = .ok 25 w:=by kernel_rfl
theorem agg_ev (w:World):(isAgg 78).run Tryz.prog w = .ok true w:=by kernel_rfl
theorem swap_lit (args:Array Value) (W:World):(callFunc 167 args).run Tryz.prog W=((Extern.ReflectliteSwapper.swap false args).run Tryz.prog W).andThen fun v w'=>.ok (.value v) w':=
 run_callFunc_extern Tryz.func167 (by kernel_rfl) (by kernel_rfl) (by kernel_rfl) (e:=Extern.ReflectliteSwapper.swap false) (by kernel_rfl) args W
theorem swap_any {B blk bo n c:Nat} {W:World} {d:Array Ev} (h:StE B blk bo n c W d) (hbo:bo ≠ blk) (i j:Nat) (hi:i < n) (hj:j < n) :
  ∃ W',(callFunc 167 (#[.int .i64 i,.int .i64 j] ++ #[.slice (some ⟨blk,0,none⟩) n c,typeHandle Tryz.prog 78])).run Tryz.prog W = .ok (.value (.tuple #[])) W'∧StE B blk bo n c W' (swp d i j)∧W.grownBy W' (some blk):=by
 have hs:=h.size
 have hH:HoldsK evC 7 W blk 0 d:=by
  have:=holdsK_of_own (l:=d.toList) evC_len h.own
  simpa using this
 have hlit:=swapSwapsK_of_literal (P:=Tryz.prog) false 167 swap_lit 78 Tryz.svE Tryz.svEi evC 7 evC_len (by kernel_rfl) agg_ev evC_one blk 0 n c W d hH hs i j hi hj
 refine ⟨_,hlit,⟨?_,?_,?_⟩,?_⟩
 ·rw [size_swp];exact hs
 ·have h1:=own_setCells (evC d[j]!) (0 + i * 7) _ _ h.own
  have h2:=own_setCells (evC d[i]!) (0 + j * 7) _ _ h1
  have e:flatK evC 7 d=(d.toList.flatMap evC).toArray:=by
   have:=flatK_is evC 7 evC_len d.toList
   simpa using this
  have e2:flatK evC 7 (swp d i j)=((swp d i j).toList.flatMap evC).toArray:=by
   have:=flatK_is evC 7 evC_len (swp d i j).toList
   simpa using this
  have e3:=setMany_swp evC 7 evC_len d i j (by omega) (by omega)
  rw [e,e2] at e3
  simp only [Nat.zero_add] at h1 h2 ⊢
  rw [Array.toArray_toList,e3] at h2
  exact h2
 ·have:=h.box
  rw [World.cell?_setCells_out _ _ _ _ _ (fun e _=>absurd e hbo),World.cell?_setCells_out _ _ _ _ _ (fun e _=>absurd e hbo)]
  exact this
 ·exact grown_then (grown_setCells _ _ _ _) (grown_setCells _ _ _ _)
theorem sorts_ev {B blk bo n c:Nat} (hbo:bo ≠ blk) (hn:n≤1000000) :
  Sorts ltA 74 #[.pointer (some ⟨bo,0,none⟩)] 167 #[.slice (some ⟨blk,0,none⟩) n c,typeHandle Tryz.prog 78] blk n (StE B blk bo n c) where
 size W d h:=h.size
 blt W d h:=h.lt
 less W d i j h hi hj:=less_any h hn i j hi hj
 swap W d i j h hi hj _:=swap_any h hbo i j hi hj
 below W W' d h hb:=⟨h.size,own_below h.own hb (Nat.le_refl _),(hb.cell (p:=⟨bo,0,none⟩) (World.block_lt_of_cell? _ _ h.box)).trans h.box⟩
 eg:=enters_of Tryz.func74 (by kernel_rfl) rfl
theorem sorts_few {B blk bo n c sf:Nat} {sb:Array Value} (hn:n≤1) :
  Sorts ltA 74 #[.pointer (some ⟨bo,0,none⟩)] sf sb blk n (StE B blk bo n c) where
 size W d h:=h.size
 blt W d h:=h.lt
 less W d i j h hi hj:=less_any h (by omega) i j hi hj
 swap W d i j h hi hj hne:=absurd (show i=j by omega) hne
 below W W' d h hb:=⟨h.size,own_below h.own hb (Nat.le_refl _),(hb.cell (p:=⟨bo,0,none⟩) (World.block_lt_of_cell? _ _ h.box)).trans h.box⟩
 eg:=enters_of Tryz.func74 (by kernel_rfl) rfl
noncomputable def entW (p:Option Addr) (n c:Nat) (w:World):World:=
 (w.alloc (.cells #[.slice p n c] 53)).alloc (.cells #[.pointer (some ⟨11,53,none⟩),.pointer (some ⟨w.heap.size,0,none⟩),.int .u64 151] 145)
set_option maxHeartbeats 1000000 in
set_option maxRecDepth 100000 in
theorem entry_any (p:Option Addr) (n c:Nat) (_hn:n≤1000000) (f:Nat) (hf:Tryz.prog.funcs.findIdx? (·.name == "internal/reflectlite" ++ ".Swapper$" ++ toString (swapperK n Tryz.svE 25))=some f) (g:Nat) (lb:Array Value) (w:World) (R:World→Prop)
  (hp:Calls Tryz.prog 123 #[dV g lb f (if swapperK n Tryz.svE 25≤2 then (#[]:Array Value) else #[.slice p n c,typeHandle Tryz.prog 78]),.int .i64 n] (entW p n c w) fun e w'=>e = .returned (.tuple #[])∧R w') :
  Calls Tryz.prog 73 #[.iface 53 (.slice p n c),.func (.func g) #[] lb] w fun e w'=>e = .returned (.tuple #[])∧R w':=by
 have hv:=run_valueOf_slice (P:=Tryz.prog) 53 78 Tryz.svT Tryz.svTi (by kernel_rfl) p n c w
 have hs:=fun w=>run_swapper_slice (P:=Tryz.prog) 53 78 Tryz.svT Tryz.svE Tryz.svTi (by kernel_rfl) Tryz.svEi 25 kind_ev p n c f hf w
 have hl:=fun a w ha=>run_valueLen_slice (P:=Tryz.prog) 53 78 Tryz.svT Tryz.svTi (by kernel_rfl) (by kernel_rfl) a p n c w ha
 unfold dV entW at hp
 generalize (if swapperK n Tryz.svE 25≤2 then (#[]:Array Value) else #[.slice p n c,typeHandle Tryz.prog 78])=bd at hs hp
 have hg:Tryz.prog.globals.size=11:=by kernel_rfl
 simp only [typeHandle,hg] at hv hl
 clear hg
 clear hf
 go_enter Tryz.func73,Tryz.ntmps73
 go_wp2
 rw [run_callFunc_extern Tryz.func83 (by kernel_rfl) (by kernel_rfl) (by kernel_rfl) (e:=fun args=>Extern.ReflectliteValue.unpack (args.getD 0 (.tuple #[]))) (by kernel_rfl),
  show Sem.run Tryz.prog ((fun args:Array Value=>Extern.ReflectliteValue.unpack (args.getD 0 (.tuple #[]))) #[.iface 53 (.slice p n c)]) w=_ from hv]
 simp only [Result.andThen]
 rw [Oper.upon_value]
 go_wp2
 rw [run_callFunc_extern Tryz.func122 (by kernel_rfl) (by kernel_rfl) (by kernel_rfl) (e:=Extern.ReflectliteSwapper.swapper "internal/reflectlite" (Extern.ReflectliteValue.valueError "Swapper")) (by kernel_rfl),hs]
 simp only [Result.andThen]
 rw [Oper.upon_value]
 go_wp2
 rw [run_callFunc_extern Tryz.func124 (by kernel_rfl) (by kernel_rfl) (by kernel_rfl) (e:=Extern.ReflectliteValue.method (Extern.ReflectliteValue.valueError "reflectlite.Value.Len" 0) Extern.ReflectliteValue.len) (by kernel_rfl),
  hl _ _ (by simp)]
 simp only [Result.andThen]
 rw [Oper.upon_value]
 go_wp2_with fail
 refine hp.mono ?_
 rintro e w' ⟨rfl,hR⟩
 go_wp2
 go_end0
 exact ⟨rfl,hR⟩
theorem entW_below (p:Option Addr) (n c:Nat) (w:World):Below w.heap.size w (entW p n c w):=((Below.refl _ _).alloc (Nat.le_refl _) _).alloc (by simp) _
theorem sliceStable_any {B blk bo n c:Nat} {w:World} {d:Array Ev} (h:StE B blk bo n c w d) (hbo:bo ≠ blk) (hn:n≤1000000) :
  Calls Tryz.prog 73 #[.iface 53 (.slice (some ⟨blk,0,none⟩) n c),.func (.func 74) #[] #[.pointer (some ⟨bo,0,none⟩)]] w fun e w'=>e = .returned (.tuple #[])∧∃ d',StE B blk bo n c w' d'∧SortedIn ltA 0 n d'∧PermIn 0 n d d'∧w.grownBy w' (some blk):=by
 have hO:SWO ltA:=swo_cmp
 have hb:=entW_below (some ⟨blk,0,none⟩) n c w
 have hE:StE B blk bo n c (entW (some ⟨blk,0,none⟩) n c w) d:=⟨h.size,own_below h.own hb (Nat.le_refl _),(hb.cell (p:=⟨bo,0,none⟩) (World.block_lt_of_cell? _ _ h.box)).trans h.box⟩
 have fin:∀ w',(∃ d',StE B blk bo n c w' d'∧SortedIn ltA 0 n d'∧PermIn 0 n d d'∧(entW (some ⟨blk,0,none⟩) n c w).grownBy w' (some blk))→∃ d',StE B blk bo n c w' d'∧SortedIn ltA 0 n d'∧PermIn 0 n d d'∧w.grownBy w' (some blk):=fun w' ⟨d',x1,x2,x3,x4⟩=>⟨d',x1,x2,x3,grown_then (grown_below hb) x4⟩
 rcases Nat.lt_or_ge n 2 with h2 | h2
 ·have hcase:n=0∨n=1:=by omega
  rcases hcase with rfl | rfl
  ·refine entry_any _ 0 c hn 159 (by kernel_rfl) _ _ w _ ?_
   exact (stable_any (sorts_few (by omega)) hO (by omega) d _ hE).mono fun e w' ⟨x,y⟩=>⟨x,fin w' y⟩
  ·refine entry_any _ 1 c hn 160 (by kernel_rfl) _ _ w _ ?_
   exact (stable_any (sorts_few (by omega)) hO (by omega) d _ hE).mono fun e w' ⟨x,y⟩=>⟨x,fin w' y⟩
 ·refine entry_any _ n c hn 167 (by rw [Tryz.svK n h2];kernel_rfl) _ _ w _ ?_
  rw [if_neg (by rw [Tryz.svK n h2];omega)]
  exact (stable_any (sorts_ev hbo hn) hO hn d _ hE).mono fun e w' ⟨x,y⟩=>⟨x,fin w' y⟩
theorem perm_list {d d':Array Ev} (h:PermIn 0 d.size d d'):d'.toList.Perm d.toList:=by
 have h2:=h.2.2
 have hs:=h.1
 rw [Array.toList_extract,Array.toList_extract] at h2
 simp only [List.extract_eq_take_drop] at h2
 simpa [List.take_of_length_le (show d'.toList.length≤d.size by simp [hs]),List.take_of_length_le (show d.toList.length≤d.size by simp)] using h2
theorem sorted_list {d:Array Ev} (h:SortedIn ltA 0 d.size d):d.toList.Pairwise fun x y=>ltOf cmpE y x=false:=by
 rw [List.pairwise_iff_getElem]
 intro i j hi hj hij
 have hi':i < d.size:=by simpa using hi
 have hj':j < d.size:=by simpa using hj
 have h2:=h i j (Nat.zero_le _) hij hj'
 rw [getElem!_pos d i hi',getElem!_pos d j hj'] at h2
 simp only [Array.getElem_toList]
 exact h2
def Ordered (l:List Ev) (w:World):Ending→World→Prop:=fun r w'=>∃ (v':Value) (l':List Ev),r = .returned v'∧w'.ownsRow w.heap.size 78 7 v' l'.length (l'.flatMap evC)∧l'.Perm l∧(l'.Pairwise fun x y=>ltOf cmpE y x=false)∧Below w.heap.size w w'
theorem ordered_of {w wa w':World} {l:List Ev} {blk bo c:Nat} {d':Array Ev} (hb:Below w.heap.size w wa) (hg:w.heap.size≤blk) (h:StE w.heap.size blk bo l.length c w' d') (hs:SortedIn ltA 0 l.length d') (hp:PermIn 0 l.length l.toArray d') (hgr:wa.grownBy w' (some blk)):Ordered l w (.returned (.slice (some ⟨blk,0,none⟩) l.length c)) w':=by
 have e:=h.size
 refine ⟨_,d'.toList,rfl,?_,?_,?_,?_⟩
 ·have:=h.own
  have e2:d'.toList.length=l.length:=by rw [Array.length_toList];exact e
  rw [e2]
  exact this
 ·have:=perm_list (d:=l.toArray) (d':=d') (by simpa using hp)
  simpa using this
 ·exact sorted_list (by rw [e];exact hs)
 ·exact hb.grown hgr hb.size (fun k hk=>by cases hk;exact hg)
theorem own_empty (w:World):(w.alloc (.cells #[] 78)).ownsRow w.heap.size 78 7 (.slice (some ⟨w.heap.size,0,none⟩) 0 0) 0 []:=
 ⟨rfl,Or.inr ⟨w.heap.size,0,#[],rfl,Nat.le_refl _,by show (w.heap.push _)[w.heap.size]?=_;exact Array.getElem?_push_size,Nat.le_refl _,by simp [maxLen],rfl,rfl⟩⟩
set_option maxRecDepth 20000 in
set_option maxHeartbeats 4000000 in
theorem ordered_any {B:Nat} {v:Value} {l:List Ev} {w:World} (h:w.ownsRow B 78 7 v l.length (l.flatMap evC)) (hl:l.length≤1000000) :
  Calls Tryz.prog 34 #[v] w (Ordered l w):=by
 obtain ⟨i0,hi,hz0,hz1,hz2⟩:=info_parts Tryz.infoEv
 by_cases hl0:l=[]
 ·subst hl0
  have hst:StE w.heap.size w.heap.size (w.heap.size + 1) 0 0 ((w.alloc (.cells #[] 78)).alloc (.cells #[.slice (some ⟨w.heap.size,0,none⟩) 0 0] 53)) #[]:=
   ⟨rfl,(own_empty w).alloc _,by simp⟩
  have hc:=sliceStable_any hst (by omega) (by omega)
  have hb:Below w.heap.size w ((w.alloc (.cells #[] 78)).alloc (.cells #[.slice (some ⟨w.heap.size,0,none⟩) 0 0] 53)):=((Below.refl _ _).alloc (Nat.le_refl _) _).alloc (by simp) _
  have fin:∀ w' d',StE w.heap.size w.heap.size (w.heap.size + 1) 0 0 w' d'→SortedIn ltA 0 0 d'→PermIn 0 0 #[] d'→((w.alloc (.cells #[] 78)).alloc (.cells #[.slice (some ⟨w.heap.size,0,none⟩) 0 0] 53)).grownBy w' (some w.heap.size)→Ordered [] w (.returned (.slice (some ⟨w.heap.size,0,none⟩) 0 0)) w':=fun w' d' x1 x2 x3 x4=>ordered_of (l:=[]) hb (Nat.le_refl _) x1 x2 x3 x4
  have HF:Hid _:=fin
  clear fin hst hb
  have hv:v = .slice none 0 0∨∃ g cap,v = .slice (some ⟨g,0,none⟩) 0 cap:=by
   rcases own_form h with ⟨hv,hn,hx⟩ | ⟨g,cap,hv,hgB,hgl,_⟩
   ·exact Or.inl hv
   ·exact Or.inr ⟨g,cap,hv⟩
  rcases hv with rfl | ⟨g,cap,rfl⟩
  all_goals
   go_enter Tryz.func34,Tryz.ntmps34
   go_wp2_with fail
   refine hc.mono ?_
   rintro e w2 ⟨rfl,d',x1,x2,x3,x4⟩
   have hbx:=x1.box
   have HR:=HF.out w2 d' x1 x2 x3 x4
   clear x1 x2 x3 x4 hc
   go_wp2
   go_ret
   exact HR
 ·rcases own_form h with ⟨hv,hn,hx⟩ | ⟨g,cap,hv,hgB,hgl,_⟩
  ·exact absurd (List.length_eq_zero_iff.1 hn) hl0
  ·subst hv
   have hE:(w.alloc (.cells #[] 78)).ownsRow w.heap.size 78 7 (.slice (some ⟨w.heap.size,0,none⟩) 0 0) 0 []:=own_empty w
   have hnews:∀ j u,(l.flatMap evC)[j]?=some u→w.cell? ⟨g,j,none⟩=some u:=fun j u hj=>by
    have:=h.cells (g:=g) rfl j u hj
    rw [Addr.add_lit,Nat.zero_add] at this
    exact this
   have HN:Hid _:=hnews
   have HE:Hid _:=hE
   clear hnews hE
   go_enter Tryz.func34,Tryz.ntmps34
   go_wp2_with (first
    | (at_builtin;refine wpList_append_own _ rfl _ _ 53 rfl w.heap.size 78 i0 evZ 7 64 Tryz.underlying53 hi hz0 hz1 hz2 rfl (by decide) _ _ _ rfl HE.out ⟨g,0,none⟩ l.length cap (l.flatMap evC) rfl ?d0 ?d1 ?d2 ?d3 ?d4 ?d5 ?_)
    | go_in)
   case d0=>have:=flat_len evC 7 evC_len l;simpa using this
   case d1=>exact HN.out
   case d2=>exact fun u x _ hx=>evC_one x u hx
   case d3=>unfold maxLen;omega
   case d4=>omega
   ·intro v' w2 hown2 hgr _
    have hb2:Below w.heap.size w w2:=((Below.refl _ _).alloc (Nat.le_refl _) _).grown hgr (by simp) (fun k hk=>by cases hk;exact Nat.le_refl _)
    rcases own_form hown2 with ⟨hv,hn,hx⟩ | ⟨g2,cap2,hv,hgB2,hgl2,_⟩
    ·exact absurd (List.length_eq_zero_iff.1 hn) hl0
    ·subst hv
     obtain ⟨W3,hW3⟩:∃ x,x=w2.alloc (.cells #[.slice (some ⟨g2,0,none⟩) l.length cap2] 53):=⟨_,rfl⟩
     have hb3:Below w.heap.size w W3:=by rw [hW3];exact hb2.alloc hb2.size _
     have hst:StE w.heap.size g2 w2.heap.size l.length cap2 W3 l.toArray:=by
      refine ⟨by simp,?_,?_⟩
      ·rw [hW3];exact hown2.alloc _
      ·rw [hW3];simp
     have hc:=sliceStable_any hst (by omega) hl
     have HF:Hid (∀ w' d',StE w.heap.size g2 w2.heap.size l.length cap2 w' d'→SortedIn ltA 0 l.length d'→PermIn 0 l.length l.toArray d'→W3.grownBy w' (some g2)→Ordered l w (.returned (.slice (some ⟨g2,0,none⟩) l.length cap2)) w'):=fun w' d' x1 x2 x3 x4=>ordered_of hb3 hgB2 x1 x2 x3 x4
     clear hst hown2 hgr
     go_wp2_with fail
     rw [← hW3]
     refine hc.mono ?_
     rintro e w4 ⟨rfl,d',x1,x2,x3,x4⟩
     have hbx:=x1.box
     have HR:=HF.out w4 d' x1 x2 x3 x4
     clear x1 x2 x3 x4 hc
     go_wp2
     go_ret
     exact HR
def StP (B blk bo n c:Nat) (W:World) (d:Array EvN):Prop:=StE B blk bo n c W (d.map (·.1))
theorem sorts_P {B blk bo n c:Nat} (hbo:bo ≠ blk) (hn:n≤1000000) :
  SortsQ ltP (fun p r:EvN=>r.2 < p.2) 74 #[.pointer (some ⟨bo,0,none⟩)] 167 #[.slice (some ⟨blk,0,none⟩) n c,typeHandle Tryz.prog 78] blk n (StP B blk bo n c) where
 size W d h:=by have:=h.size;simpa using this
 blt W d h:=StE.lt h
 less W d i j h hi hj hq:=by
  rw [less_P hq,← map_get,← map_get]
  exact less_any h hn i j hi hj
 swap W d i j h hi hj _:=by
  obtain ⟨W',h1,h2,h3⟩:=swap_any h hbo i j hi hj
  exact ⟨W',h1,by unfold StP;rw [map_swp];exact h2,h3⟩
 below W W' d h hb:=⟨h.size,own_below h.own hb (Nat.le_refl _),(hb.cell (p:=⟨bo,0,none⟩) (World.block_lt_of_cell? _ _ h.box)).trans h.box⟩
 eg:=enters_of Tryz.func74 (by kernel_rfl) rfl
theorem sorts_P_few {B blk bo n c sf:Nat} {sb:Array Value} (hn:n≤1) :
  SortsQ ltP (fun p r:EvN=>r.2 < p.2) 74 #[.pointer (some ⟨bo,0,none⟩)] sf sb blk n (StP B blk bo n c) where
 size W d h:=by have:=h.size;simpa using this
 blt W d h:=StE.lt h
 less W d i j h hi hj hq:=by
  rw [less_P hq,← map_get,← map_get]
  exact less_any h (by omega) i j hi hj
 swap W d i j h hi hj hne:=absurd (show i=j by omega) hne
 below W W' d h hb:=⟨h.size,own_below h.own hb (Nat.le_refl _),(hb.cell (p:=⟨bo,0,none⟩) (World.block_lt_of_cell? _ _ h.box)).trans h.box⟩
 eg:=enters_of Tryz.func74 (by kernel_rfl) rfl
theorem sliceStable_stl {B blk bo c:Nat} {w:World} {l:List Ev} (h:StE B blk bo l.length c w l.toArray) (hbo:bo ≠ blk) (hn:l.length≤1000000) :
  Calls Tryz.prog 73 #[.iface 53 (.slice (some ⟨blk,0,none⟩) l.length c),.func (.func 74) #[] #[.pointer (some ⟨bo,0,none⟩)]] w fun e w'=>e = .returned (.tuple #[])∧StE B blk bo l.length c w' (stl l).toArray∧w.grownBy w' (some blk):=by
 have hb:=entW_below (some ⟨blk,0,none⟩) l.length c w
 have hz:l.zipIdx.toArray.map (·.1)=l.toArray:=by
  simp
 have hE:StP B blk bo l.length c (entW (some ⟨blk,0,none⟩) l.length c w) l.zipIdx.toArray:=by
  unfold StP
  rw [hz]
  exact ⟨h.size,own_below h.own hb (Nat.le_refl _),(hb.cell (p:=⟨bo,0,none⟩) (World.block_lt_of_cell? _ _ h.box)).trans h.box⟩
 have hq:∀ s t,s < t→t < l.length→l.zipIdx.toArray[s]!.2 < l.zipIdx.toArray[t]!.2:=fun s t h1 h2=>by
  rw [getElem!_pos _ s (by simp;omega),getElem!_pos _ t (by simpa using h2)]
  simpa using h1
 have fin:∀ w',(∃ d',StP B blk bo l.length c w' d'∧SortedIn ltP 0 l.length d'∧PermIn 0 l.length l.zipIdx.toArray d'∧(entW (some ⟨blk,0,none⟩) l.length c w).grownBy w' (some blk))→StE B blk bo l.length c w' (stl l).toArray∧w.grownBy w' (some blk):=fun w' ⟨d',x1,x2,x3,x4⟩=>by
  refine ⟨?_,grown_then (grown_below hb) x4⟩
  have hs:d'.size=l.length:=by have:=x1.size;simpa using this
  have e1:=stl_of (l:=l) (ps:=d'.toList) (by have:=permP (d:=l.zipIdx.toArray) (d':=d') (by simpa using x3);simpa using this) (sortP (by rw [hs];exact x2))
  have e2:d'.map (·.1)=(stl l).toArray:=by rw [← e1,← Array.toList_map]
  rw [← e2]
  exact x1
 have run:∀ (n:Nat) (hn':n=l.length) (f:Nat) (sb:Array Value) (S:SortsQ ltP (fun p r:EvN=>r.2 < p.2) 74 #[.pointer (some ⟨bo,0,none⟩)] f sb blk l.length (StP B blk bo l.length c)),
   Calls Tryz.prog 123 #[dV 74 #[.pointer (some ⟨bo,0,none⟩)] f sb,.int .i64 n] (entW (some ⟨blk,0,none⟩) n c w) fun e w'=>e = .returned (.tuple #[])∧(StE B blk bo l.length c w' (stl l).toArray∧w.grownBy w' (some blk)):=fun n hn' f sb S=>by
  subst hn'
  exact (sb_stable_any S swo_P hn l.zipIdx.toArray _ hE hq).mono fun e w' ⟨x,y⟩=>⟨x,fin w' y⟩
 rcases Nat.lt_or_ge l.length 2 with h2 | h2
 ·have hcase:l.length=0∨l.length=1:=by omega
  rcases hcase with h0 | h0
  ·rw [h0]
   refine entry_any _ 0 c (by omega) 159 (by kernel_rfl) _ _ w _ ?_
   have:=run 0 h0.symm 159 (if swapperK 0 Tryz.svE 25≤2 then (#[]:Array Value) else #[.slice (some ⟨blk,0,none⟩) 0 c,typeHandle Tryz.prog 78]) (sorts_P_few (by omega))
   rw [h0] at this
   exact this
  ·rw [h0]
   refine entry_any _ 1 c (by omega) 160 (by kernel_rfl) _ _ w _ ?_
   have:=run 1 h0.symm 160 (if swapperK 1 Tryz.svE 25≤2 then (#[]:Array Value) else #[.slice (some ⟨blk,0,none⟩) 1 c,typeHandle Tryz.prog 78]) (sorts_P_few (by omega))
   rw [h0] at this
   exact this
 ·refine entry_any _ l.length c hn 167 (by rw [Tryz.svK _ h2];kernel_rfl) _ _ w _ ?_
  rw [if_neg (by rw [Tryz.svK _ h2];omega)]
  exact run l.length rfl _ _ (sorts_P hbo hn)
def OrderedS (l:List Ev) (w:World):Ending→World→Prop:=fun r w'=>∃ v':Value,r = .returned v'∧w'.ownsRow w.heap.size 78 7 v' (stl l).length ((stl l).flatMap evC)∧Below w.heap.size w w'
theorem ordered_st {w wa w':World} {l:List Ev} {blk bo c:Nat} (hb:Below w.heap.size w wa) (hg:w.heap.size≤blk) (h:StE w.heap.size blk bo l.length c w' (stl l).toArray) (hgr:wa.grownBy w' (some blk)):OrderedS l w (.returned (.slice (some ⟨blk,0,none⟩) l.length c)) w':=by
 refine ⟨_,rfl,?_,hb.grown hgr hb.size (fun k hk=>by cases hk;exact hg)⟩
 have:=h.own
 rw [stl_len]
 exact this
theorem evs_flat {w:World} {g o:Nat} {l:List Ev} (h:∀ k (hk:k < l.length) j,j < 7→w.cell? ⟨g,o + k * 7 + j,none⟩=(evC l[k])[j]?):∀ j u,(l.flatMap evC)[j]?=some u→w.cell? ⟨g,o + j,none⟩=some u:=fun j u hj=>by
 have hl:=flat_len evC 7 evC_len l
 have hj2:j < l.length * 7:=by
  have:=(List.getElem?_eq_some_iff.1 hj).1
  omega
 have hk:j / 7 < l.length:=by omega
 have e:j=j / 7 * 7 + j % 7:=by omega
 have h1:=h (j / 7) hk (j % 7) (by omega)
 have h2:=flat_get evC 7 evC_len l (j / 7) (j % 7) hk (by omega)
 rw [← e,hj] at h2
 rw [← h2] at h1
 rw [show o + j=o + j / 7 * 7 + j % 7 by omega]
 exact h1
set_option maxRecDepth 20000 in
set_option maxHeartbeats 4000000 in
theorem ordered_evs (l:List Ev) (ao:Option Addr) (cap:Nat) (w:World) (h:EvsC w ao l) (hl:l.length≤1000000) :
  Calls Tryz.prog 34 #[.slice ao l.length cap] w (OrderedS l w):=by
 obtain ⟨i0,hi,hz0,hz1,hz2⟩:=info_parts Tryz.infoEv
 by_cases hl0:l=[]
 ·subst hl0
  have hst:StE w.heap.size w.heap.size (w.heap.size + 1) 0 0 ((w.alloc (.cells #[] 78)).alloc (.cells #[.slice (some ⟨w.heap.size,0,none⟩) 0 0] 53)) #[]:=
   ⟨rfl,(own_empty w).alloc _,by simp⟩
  have hc:=sliceStable_stl (l:=[]) hst (by omega) (by simp)
  have hb:Below w.heap.size w ((w.alloc (.cells #[] 78)).alloc (.cells #[.slice (some ⟨w.heap.size,0,none⟩) 0 0] 53)):=((Below.refl _ _).alloc (Nat.le_refl _) _).alloc (by simp) _
  have fin:∀ w',StE w.heap.size w.heap.size (w.heap.size + 1) 0 0 w' (stl []).toArray→((w.alloc (.cells #[] 78)).alloc (.cells #[.slice (some ⟨w.heap.size,0,none⟩) 0 0] 53)).grownBy w' (some w.heap.size)→OrderedS [] w (.returned (.slice (some ⟨w.heap.size,0,none⟩) 0 0)) w':=fun w' x1 x4=>ordered_st (l:=[]) hb (Nat.le_refl _) x1 x4
  have HF:Hid _:=fin
  clear fin hst hb
  simp only [List.length_nil]
  rcases ao with _ | ⟨g⟩
  all_goals
   go_enter Tryz.func34,Tryz.ntmps34
   go_wp2_with fail
   refine hc.mono ?_
   rintro e w2 ⟨rfl,x1,x4⟩
   have hbx:=x1.box
   have HR:=HF.out w2 x1 x4
   clear x1 x4 hc
   go_wp2
   go_ret
   exact HR
 ·obtain ⟨g,o,hao,hgl,hc⟩:=h (List.length_pos_iff.2 hl0)
  ·subst hao
   have hE:(w.alloc (.cells #[] 78)).ownsRow w.heap.size 78 7 (.slice (some ⟨w.heap.size,0,none⟩) 0 0) 0 []:=own_empty w
   have hnews:∀ j u,(l.flatMap evC)[j]?=some u→w.cell? ⟨g,o + j,none⟩=some u:=fun j u hj=>evs_flat hc j u hj
   have HN:Hid _:=hnews
   have HE:Hid _:=hE
   clear hnews hE
   go_enter Tryz.func34,Tryz.ntmps34
   go_wp2_with (first
    | (at_builtin;refine wpList_append_own _ rfl _ _ 53 rfl w.heap.size 78 i0 evZ 7 64 Tryz.underlying53 hi hz0 hz1 hz2 rfl (by decide) _ _ _ rfl HE.out ⟨g,o,none⟩ l.length cap (l.flatMap evC) rfl ?d0 ?d1 ?d2 ?d3 ?d4 ?d5 ?_)
    | go_in)
   case d0=>have:=flat_len evC 7 evC_len l;simpa using this
   case d1=>exact HN.out
   case d2=>exact fun u x _ hx=>evC_one x u hx
   case d3=>unfold maxLen;omega
   case d4=>omega
   ·intro v' w2 hown2 hgr _
    have hb2:Below w.heap.size w w2:=((Below.refl _ _).alloc (Nat.le_refl _) _).grown hgr (by simp) (fun k hk=>by cases hk;exact Nat.le_refl _)
    rcases own_form hown2 with ⟨hv,hn,hx⟩ | ⟨g2,cap2,hv,hgB2,hgl2,_⟩
    ·exact absurd (List.length_eq_zero_iff.1 hn) hl0
    ·subst hv
     obtain ⟨W3,hW3⟩:∃ x,x=w2.alloc (.cells #[.slice (some ⟨g2,0,none⟩) l.length cap2] 53):=⟨_,rfl⟩
     have hb3:Below w.heap.size w W3:=by rw [hW3];exact hb2.alloc hb2.size _
     have hst:StE w.heap.size g2 w2.heap.size l.length cap2 W3 l.toArray:=by
      refine ⟨by simp,?_,?_⟩
      ·rw [hW3];exact hown2.alloc _
      ·rw [hW3];simp
     have hc:=sliceStable_stl hst (by omega) hl
     have HF:Hid (∀ w',StE w.heap.size g2 w2.heap.size l.length cap2 w' (stl l).toArray→W3.grownBy w' (some g2)→OrderedS l w (.returned (.slice (some ⟨g2,0,none⟩) l.length cap2)) w'):=fun w' x1 x4=>ordered_st hb3 hgB2 x1 x4
     clear hst hown2 hgr
     go_wp2_with fail
     rw [← hW3]
     refine hc.mono ?_
     rintro e w4 ⟨rfl,x1,x4⟩
     have hbx:=x1.box
     have HR:=HF.out w4 x1 x4
     clear x1 x4 hc
     go_wp2
     go_ret
     exact HR
end Go.Proofs.YtdkhohlhdiekmaaGreatDoor
