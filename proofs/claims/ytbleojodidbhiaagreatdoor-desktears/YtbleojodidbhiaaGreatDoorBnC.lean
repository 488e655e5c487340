/-  -/
import Derived.Test.YtbleojodidbhiaaGreatDoorBnA
import Derived.Lib.SmallJoins
import Derived.Test.YtbleojodidbhiaaGreatDoorBnB
namespace Go.Proofs.YtbleojodidbhiaaGreatDoor
open Go.ChangeShapes Go.WideShapes Go.RowKit Go.Deep Go.WideElems Go.Maps Go.Joins
theorem array7 {α:Type} {cs:Array α} (h:cs.size=7):∃ c0 c1 c2 c3 c4 c5 c6,cs=#[c0,c1,c2,c3,c4,c5,c6]:=by
 obtain ⟨l⟩:=cs
 match l,h with
 | [c0,c1,c2,c3,c4,c5,c6],_=>exact ⟨c0,c1,c2,c3,c4,c5,c6,rfl⟩
theorem list7 {α:Type} {l:List α} (h:l.length=7):∃ c0 c1 c2 c3 c4 c5 c6,l=[c0,c1,c2,c3,c4,c5,c6]:=by
 match l,h with
 | [c0,c1,c2,c3,c4,c5,c6],_=>exact ⟨c0,c1,c2,c3,c4,c5,c6,rfl⟩
def evV (e:Ev):Value:=.agg #[.int .i64 e.id,.string e.item,.int .i64 e.kind,.int .i64 e.qty,.int .i64 e.price,.int .i64 e.ofI,.int .i64 e.day]
def evL {H:Type} (e:Ev):DataW H:=.agg [.lit (.int .i64 e.id),.lit (.string e.item.data.toList),.lit (.int .i64 e.kind),.lit (.int .i64 e.qty),.lit (.int .i64 e.price),.lit (.int .i64 e.ofI),.lit (.int .i64 e.day)]
structure EvW (e:Ev):Prop where
 id:(Lit.int .i64 e.id).wf=true
 item:e.item.size≤maxLen
 kind:(Lit.int .i64 e.kind).wf=true
 qty:(Lit.int .i64 e.qty).wf=true
 price:(Lit.int .i64 e.price).wf=true
 ofI:(Lit.int .i64 e.ofI).wf=true
 day:(Lit.int .i64 e.day).wf=true
section
variable {H:Type} {enc:TypeId × Value→H} {P:Program} {w:World} {base:Nat} {spare:Nat→Bool} {held:Bool}
theorem open_agg7 {r:Reach} {b0:Nat} {t:TypeId} {f0 f1 f2 f3 f4 f5 f6:Field} {v:Value} {d:DataW H} {p:List MemPlace} (hs:P.underlying t=some (.struct #[f0,f1,f2,f3,f4,f5,f6])) (hone:oneCellFields P #[f0,f1,f2,f3,f4,f5,f6]=true) (hC:P.cellsOf t=7)
  (hv:Value.okWide P w r b0 t v) (h:DataW.Trod enc P w base spare held t v d p) :
  ∃ (v0 v1 v2 v3 v4 v5 v6:Value) (y0 y1 y2 y3 y4 y5 y6:DataW H × List MemPlace) (n:Nat),v = .agg #[v0,v1,v2,v3,v4,v5,v6]∧d = .agg [y0.1,y1.1,y2.1,y3.1,y4.1,y5.1,y6.1]∧p=y0.2 ++ (y1.2 ++ (y2.2 ++ (y3.2 ++ (y4.2 ++ (y5.2 ++ y6.2))))) ∧
   DataW.trod enc P w base spare held n f0.type [v0]=some y0∧DataW.trod enc P w base spare held n f1.type [v1]=some y1∧DataW.trod enc P w base spare held n f2.type [v2]=some y2∧DataW.trod enc P w base spare held n f3.type [v3]=some y3 ∧
   DataW.trod enc P w base spare held n f4.type [v4]=some y4∧DataW.trod enc P w base spare held n f5.type [v5]=some y5∧DataW.trod enc P w base spare held n f6.type [v6]=some y6:=by
 obtain ⟨cs,rfl,hsz⟩:=okWide_struct hs hv
 obtain ⟨c0,c1,c2,c3,c4,c5,c6,rfl⟩:=array7 (hsz.trans hC)
 obtain ⟨fuel,hf⟩:=h
 obtain ⟨xs,n,_,hx,_,hlen,hfs⟩:=DataW.trod_struct hs hf
 obtain ⟨y0,y1,y2,y3,y4,y5,y6,rfl⟩:=list7 (hlen.trans rfl)
 have g0:=hfs 0 f0 rfl
 have g1:=hfs 1 f1 rfl
 have g2:=hfs 2 f2 rfl
 have g3:=hfs 3 f3 rfl
 have g4:=hfs 4 f4 rfl
 have g5:=hfs 5 f5 rfl
 have g6:=hfs 6 f6 rfl
 obtain ⟨o0,k0⟩:=hone_of hone 0 f0 rfl
 obtain ⟨o1,k1⟩:=hone_of hone 1 f1 rfl
 obtain ⟨o2,k2⟩:=hone_of hone 2 f2 rfl
 obtain ⟨o3,k3⟩:=hone_of hone 3 f3 rfl
 obtain ⟨o4,k4⟩:=hone_of hone 4 f4 rfl
 obtain ⟨o5,k5⟩:=hone_of hone 5 f5 rfl
 obtain ⟨o6,k6⟩:=hone_of hone 6 f6 rfl
 rw [o0,k0] at g0
 rw [o1,k1] at g1
 rw [o2,k2] at g2
 rw [o3,k3] at g3
 rw [o4,k4] at g4
 rw [o5,k5] at g5
 rw [o6,k6] at g6
 simp only [Prod.mk.injEq] at hx
 exact ⟨c0,c1,c2,c3,c4,c5,c6,y0,y1,y2,y3,y4,y5,y6,n,rfl,hx.1,by rw [hx.2];simp,g0,g1,g2,g3,g4,g5,g6⟩
theorem shut_agg7 {t:TypeId} {f0 f1 f2 f3 f4 f5 f6:Field} {v0 v1 v2 v3 v4 v5 v6:Value} {y0 y1 y2 y3 y4 y5 y6:DataW H × List MemPlace} {n:Nat} (hs:P.underlying t=some (.struct #[f0,f1,f2,f3,f4,f5,f6])) (hone:oneCellFields P #[f0,f1,f2,f3,f4,f5,f6]=true) (hC:P.cellsOf t=7)
  (t0:DataW.trod enc P w base spare held n f0.type [v0]=some y0) (t1:DataW.trod enc P w base spare held n f1.type [v1]=some y1) (t2:DataW.trod enc P w base spare held n f2.type [v2]=some y2) (t3:DataW.trod enc P w base spare held n f3.type [v3]=some y3)
  (t4:DataW.trod enc P w base spare held n f4.type [v4]=some y4) (t5:DataW.trod enc P w base spare held n f5.type [v5]=some y5) (t6:DataW.trod enc P w base spare held n f6.type [v6]=some y6) :
  DataW.Trod enc P w base spare held t (.agg #[v0,v1,v2,v3,v4,v5,v6]) (.agg [y0.1,y1.1,y2.1,y3.1,y4.1,y5.1,y6.1]) (y0.2 ++ (y1.2 ++ (y2.2 ++ (y3.2 ++ (y4.2 ++ (y5.2 ++ y6.2)))))):=by
 obtain ⟨o0,k0⟩:=hone_of hone 0 f0 rfl
 obtain ⟨o1,k1⟩:=hone_of hone 1 f1 rfl
 obtain ⟨o2,k2⟩:=hone_of hone 2 f2 rfl
 obtain ⟨o3,k3⟩:=hone_of hone 3 f3 rfl
 obtain ⟨o4,k4⟩:=hone_of hone 4 f4 rfl
 obtain ⟨o5,k5⟩:=hone_of hone 5 f5 rfl
 obtain ⟨o6,k6⟩:=hone_of hone 6 f6 rfl
 have ts:=trod_struct_mk (enc:=enc) (w:=w) (base:=base) (spare:=spare) (held:=held) (n:=n) (cs:=[v0,v1,v2,v3,v4,v5,v6]) (xs:=[y0,y1,y2,y3,y4,y5,y6]) hs (by rw [hC];rfl)
  (by simp [o0,k0,o1,k1,o2,k2,o3,k3,o4,k4,o5,k5,o6,k6,t0,t1,t2,t3,t4,t5,t6])
 exact ⟨_,by simpa [Value.cells] using ts⟩
end
section
variable {H:Type} {enc:TypeId × Value→H} {w:World} {base:Nat} {spare:Nat→Bool} {held:Bool}
theorem ev_cells:Tryz.prog.cellsOf 93=7:=by kernel_rfl
set_option maxRecDepth 100000 in
theorem open_event {r:Reach} {b0:Nat} {v:Value} {d:DataW H} {p:List MemPlace}
  (hv:Value.okWide Tryz.prog w r b0 93 v) (h:DataW.Trod enc Tryz.prog w base spare held 93 v d p) :
  ∃ e:Ev,v=evV e∧d=evL e∧p=[]∧EvW e:=by
 obtain ⟨v0,v1,v2,v3,v4,v5,v6,y0,y1,y2,y3,y4,y5,y6,n,rfl,rfl,rfl,h0,h1,h2,h3,h4,h5,h6⟩:=open_agg7 Tryz.underlying93 (by kernel_rfl) ev_cells hv h
 obtain ⟨a0,e0,rfl,w0⟩:=DataW.trod_int Tryz.underlying3 h0
 obtain ⟨a1,e1,rfl,w1⟩:=DataW.trod_string Tryz.underlying9 h1
 obtain ⟨a2,e2,rfl,w2⟩:=DataW.trod_int Tryz.underlying3 h2
 obtain ⟨a3,e3,rfl,w3⟩:=DataW.trod_int Tryz.underlying3 h3
 obtain ⟨a4,e4,rfl,w4⟩:=DataW.trod_int Tryz.underlying3 h4
 obtain ⟨a5,e5,rfl,w5⟩:=DataW.trod_int Tryz.underlying3 h5
 obtain ⟨a6,e6,rfl,w6⟩:=DataW.trod_int Tryz.underlying3 h6
 simp only [List.cons.injEq,and_true] at e0 e1 e2 e3 e4 e5 e6
 subst e0 e1 e2 e3 e4 e5 e6
 exact ⟨⟨a0,a1,a2,a3,a4,a5,a6⟩,rfl,rfl,rfl,⟨w0,w1,w2,w3,w4,w5,w6⟩⟩
theorem trod_i {n:Int} (h:(Lit.int .i64 n).wf=true):DataW.trod enc Tryz.prog w base spare held 1 3 [.int .i64 n]=some (.lit (.int .i64 n),[]):=by
 simp [DataW.trod,Tryz.underlying3,h]
theorem trod_s {s:ByteArray} (h:s.size≤maxLen):DataW.trod enc Tryz.prog w base spare held 1 9 [.string s]=some (.lit (.string s.data.toList),[]):=by
 simp [DataW.trod,Tryz.underlying9,h]
set_option maxRecDepth 100000 in
theorem shut_event {e:Ev} (h:EvW e):DataW.Trod enc Tryz.prog w base spare held 93 (evV e) (evL e) []:=
 shut_agg7 Tryz.underlying93 (by kernel_rfl) ev_cells (trod_i h.id) (trod_s h.item) (trod_i h.kind) (trod_i h.qty) (trod_i h.price) (trod_i h.ofI) (trod_i h.day)
end
end Go.Proofs.YtbleojodidbhiaaGreatDoor
namespace Go.Proofs.YtbleojodidbhiaaGreatDoor
open Go.RowKit
theorem eret_bool {a b:Bool} (h:a=b):Ending.returned (.bool a) = .returned (.bool b):=by rw [h]
def Tells (e:Ending) (p:Prop):Prop:=∃ b:Bool,e = .returned (.bool b)∧(b=true ↔ p)
theorem within1_yes (n l h:Int) (a b:Addr) (w:World) (ha:w.cell? a=some (.int .i64 l)) (hb:w.cell? b=some (.int .i64 h)) (h1:l≤n) (h2:n≤h) :
  Calls Tryz.prog 257 #[.int .i64 n,.pointer (some a),.pointer (some b)] w fun e w'=>e = .returned (.bool true)∧w'=w:=by
 go_enter Tryz.func257,Tryz.ntmps257
 go_wp2
 go_ret
 exact ⟨rfl,rfl⟩
theorem within1_no (n l h:Int) (a b:Addr) (w:World) (ha:w.cell? a=some (.int .i64 l)) (hb:w.cell? b=some (.int .i64 h)) (h1:¬ (l≤n∧n≤h)) :
  Calls Tryz.prog 257 #[.int .i64 n,.pointer (some a),.pointer (some b)] w fun e w'=>e = .returned (.bool false)∧w'=w:=by
 by_cases c:l≤n
 ·have c2:¬ n≤h:=by omega
  clear h1
  go_enter Tryz.func257,Tryz.ntmps257
  go_wp2
  go_ret
  exact ⟨eret_bool (by simp),rfl⟩
 ·clear h1
  go_enter Tryz.func257,Tryz.ntmps257
  go_wp2
  go_ret
  exact ⟨rfl,rfl⟩
theorem within_any (l h:Int) (w:World) :
  Calls Tryz.prog 223 #[.int .i64 l,.int .i64 h] w fun e w'=>e = .returned (.func (.func 257) #[] #[.pointer (some ⟨w.heap.size,0,none⟩),.pointer (some ⟨w.heap.size + 1,0,none⟩)])∧w'=(w.alloc (.cells #[.int .i64 l] 3)).alloc (.cells #[.int .i64 h] 3):=by
 go_enter Tryz.func223,Tryz.ntmps223
 go_wp2
 go_ret
 exact ⟨rfl,rfl⟩
theorem letter_yes (c:Nat) (w:World) (h1:97≤c) (h2:c≤122) :
  Calls Tryz.prog 255 #[.int .u8 c] w fun e w'=>e = .returned (.bool true)∧w'=w:=by
 go_enter Tryz.func255,Tryz.ntmps255
 go_wp2
 go_ret
 exact ⟨eret_bool (by simp;omega),rfl⟩
theorem letter_no (c:Nat) (w:World) (h1:¬ (97≤c∧c≤122)) :
  Calls Tryz.prog 255 #[.int .u8 c] w fun e w'=>e = .returned (.bool false)∧w'=w:=by
 by_cases h:97≤c
 ·have h2:¬ c≤122:=by omega
  clear h1
  go_enter Tryz.func255,Tryz.ntmps255
  go_wp2
  go_ret
  exact ⟨eret_bool (by simp;omega),rfl⟩
 ·clear h1
  go_enter Tryz.func255,Tryz.ntmps255
  go_wp2
  go_ret
  exact ⟨rfl,rfl⟩
theorem digit_yes (c:Nat) (w:World) (h1:48≤c) (h2:c≤57) :
  Calls Tryz.prog 256 #[.int .u8 c] w fun e w'=>e = .returned (.bool true)∧w'=w:=by
 go_enter Tryz.func256,Tryz.ntmps256
 go_wp2
 go_ret
 exact ⟨eret_bool (by simp;omega),rfl⟩
theorem digit_no (c:Nat) (w:World) (h1:¬ (48≤c∧c≤57)) :
  Calls Tryz.prog 256 #[.int .u8 c] w fun e w'=>e = .returned (.bool false)∧w'=w:=by
 by_cases h:48≤c
 ·have h2:¬ c≤57:=by omega
  clear h1
  go_enter Tryz.func256,Tryz.ntmps256
  go_wp2
  go_ret
  exact ⟨eret_bool (by simp;omega),rfl⟩
 ·clear h1
  go_enter Tryz.func256,Tryz.ntmps256
  go_wp2
  go_ret
  exact ⟨rfl,rfl⟩
theorem ehead_is (s:ByteArray) (h:0 < s.size):s.data.toList.head?=some s[0]:=ebh_is s h
theorem mem_at (s:ByteArray) (c:UInt8) (h:c ∈ s.data.toList):∃ (k:Nat) (hk:k < s.size),s[k]=c:=by
 obtain ⟨k,hk,e⟩:=List.getElem_of_mem h
 exact ⟨k,by rw [eba_len] at hk;exact hk,e⟩
theorem at_mem (s:ByteArray) (k:Nat) (hk:k < s.size):s[k] ∈ s.data.toList:=List.getElem_mem (by rw [eba_len];exact hk)
set_option maxHeartbeats 1000000 in
theorem name_any (s:ByteArray) (w:World) (hs:s.size≤maxLen) :
  Calls Tryz.prog 222 #[.string s] w fun e w'=>Tells e (isName s.data.toList)∧w'=w:=by
 unfold maxLen at hs
 by_cases h0:s.size < 1
 ·go_enter Tryz.func222,Tryz.ntmps222
  go_wp2
  go_ret
  refine ⟨⟨false,rfl,?_⟩,rfl⟩
  constructor
  ·intro h;cases h
  ·intro h;have:=h.1.1;rw [eba_len] at this;omega
 ·by_cases h10:10 < s.size
  ·go_enter Tryz.func222,Tryz.ntmps222
   go_wp2
   go_ret
   refine ⟨⟨false,rfl,?_⟩,rfl⟩
   constructor
   ·intro h;cases h
   ·intro h;have:=h.1.2;rw [eba_len] at this;omega
  ·have hp:0 < s.size:=by omega
   have hc0:s[0].toNat < 256:=s[0].toNat_lt
   by_cases hl:97≤s[0].toNat∧s[0].toNat≤122
   ·go_enter Tryz.func222,Tryz.ntmps222
    go_wp2_with (go_at_call 255;refine (letter_yes s[0].toNat _ hl.1 hl.2).mono ?_;rintro e w' ⟨rfl,rfl⟩)
    go_loop [20] (fun i=>∃ k:Nat,k≤s.size∧i = .int .i64 k∧∀ (j:Nat) (hj:j < s.size),j < k→isLet s[j]∨isDig s[j]) (fun i=>s.size - (intOf i).toNat)
    case atStart=>exact ⟨0,Nat.zero_le _,rfl,fun j _ hj=>by omega⟩
    case round=>
     obtain ⟨k,hk,rfl,hall⟩:=hrel
     have HA:=hidE hall
     clear hall
     by_cases hlt:k < s.size
     ·have hck:s[k].toNat < 256:=s[k].toNat_lt
      by_cases a1:97≤s[k].toNat∧s[k].toNat≤122
      ·go_wp2_with (go_at_call 255;refine (letter_yes s[k].toNat _ a1.1 a1.2).mono ?_;rintro e w' ⟨rfl,rfl⟩)
       go_round
       case rel=>exact ⟨k + 1,by omega,by go_num,fun j hj hjk=>by
        by_cases e:j=k
        ·subst e;exact .inl a1
        ·exact HA.out j hj (by omega)⟩
       case measure=>simp [intOf];omega
      ·by_cases a2:48≤s[k].toNat∧s[k].toNat≤57
       ·go_wp2_with (first | (go_at_call 255;refine (letter_no s[k].toNat _ a1).mono ?_;rintro e w' ⟨rfl,rfl⟩) | (go_at_call 256;refine (digit_yes s[k].toNat _ a2.1 a2.2).mono ?_;rintro e w' ⟨rfl,rfl⟩))
        go_round
        case rel=>exact ⟨k + 1,by omega,by go_num,fun j hj hjk=>by
         by_cases e:j=k
         ·subst e;exact .inr a2
         ·exact HA.out j hj (by omega)⟩
        case measure=>simp [intOf];omega
       ·go_wp2_with (first | (go_at_call 255;refine (letter_no s[k].toNat _ a1).mono ?_;rintro e w' ⟨rfl,rfl⟩) | (go_at_call 256;refine (digit_no s[k].toNat _ a2).mono ?_;rintro e w' ⟨rfl,rfl⟩))
        go_ret
        refine ⟨⟨false,rfl,?_⟩,rfl⟩
        constructor
        ·intro h;cases h
        ·intro h
         rcases h.2.2 _ (at_mem s k hlt) with h | h
         ·exact absurd h a1
         ·exact absurd h a2
     ·go_wp2
      go_ret
      refine ⟨⟨true,rfl,?_⟩,rfl⟩
      constructor
      ·intro _
       refine ⟨⟨by rw [eba_len];omega,by rw [eba_len];omega⟩,?_,?_⟩
       ·intro c hc
        rw [ehead_is s hp] at hc
        cases hc
        exact hl
       ·intro c hc
        obtain ⟨j,hj,rfl⟩:=mem_at s c hc
        exact HA.out j hj (by omega)
      ·intro _;rfl
   ·go_enter Tryz.func222,Tryz.ntmps222
    go_wp2_with (go_at_call 255;refine (letter_no s[0].toNat _ hl).mono ?_;rintro e w' ⟨rfl,rfl⟩)
    go_ret
    refine ⟨⟨false,rfl,?_⟩,rfl⟩
    constructor
    ·intro h;cases h
    ·intro h
     exact absurd (h.2.1 _ (ehead_is s hp)) hl
structure EvAt (w:World) (b:Nat) (e:Ev):Prop where
 c0:w.cell? ⟨b,0,none⟩=some (.int .i64 e.id)
 c1:w.cell? ⟨b,1,none⟩=some (.string e.item)
 c2:w.cell? ⟨b,2,none⟩=some (.int .i64 e.kind)
 c3:w.cell? ⟨b,3,none⟩=some (.int .i64 e.qty)
 c4:w.cell? ⟨b,4,none⟩=some (.int .i64 e.price)
 c5:w.cell? ⟨b,5,none⟩=some (.int .i64 e.ofI)
 c6:w.cell? ⟨b,6,none⟩=some (.int .i64 e.day)
theorem below_cell {w w':World} (hb:Below w.heap.size w w') {p:Addr} {x:Value} (h:w.cell? p=some x):w'.cell? p=some x:=by
 rw [hb.cell (World.block_lt_of_cell? _ _ h)];exact h
theorem EvAt.below {w w':World} {b:Nat} {e:Ev} (h:EvAt w b e) (hb:Below w.heap.size w w'):EvAt w' b e:=
 ⟨below_cell hb h.c0,below_cell hb h.c1,below_cell hb h.c2,below_cell hb h.c3,below_cell hb h.c4,below_cell hb h.c5,below_cell hb h.c6⟩
theorem EvAt.up {w:World} {b:Nat} {e:Ev} (h:EvAt w b e) (n:Up w):EvAt n.v b e:=h.below n.h
theorem int_bd {n:Int} (h:(Lit.int .i64 n).wf=true) : -9223372036854775808≤n∧n≤9223372036854775807:=by
 simp only [Lit.wf,Bool.and_eq_true,decide_eq_true_eq] at h
 have h1:IntKind.i64.min = -9223372036854775808:=rfl
 have h2:IntKind.i64.max=9223372036854775807:=rfl
 rw [h1,h2] at h
 exact h
theorem within_at (l h:Int) (w:World) :
  Calls Tryz.prog 223 #[.int .i64 l,.int .i64 h] w fun e w'=>∃ a b:Addr,e = .returned (.func (.func 257) #[] #[.pointer (some a),.pointer (some b)])∧w'.cell? a=some (.int .i64 l)∧w'.cell? b=some (.int .i64 h)∧Below w.heap.size w w':=by
 refine (within_any l h w).mono ?_
 rintro e w' ⟨rfl,rfl⟩
 exact ⟨_,_,rfl,by simp,by simp,((Below.refl _ _).alloc (Nat.le_refl _) _).alloc (by simp) _⟩
set_option maxHeartbeats 8000000 in
theorem right_any (e:Ev) (w:World) (hw:EvW e) :
  Calls Tryz.prog 180 #[evV e] w fun x w'=>Tells x (Rt e)∧Below w.heap.size w w':=by
 obtain ⟨id,item,kind,qty,price,ofI,day⟩:=e
 obtain ⟨_,hs,_,_,_,ho0,_⟩:=hw
 have ho:ofI≤9223372036854775807:=(int_bd ho0).2
 unfold evV
 simp only at hs ⊢
 clear ho0
 have hU:=up_ne
 have hnm:∃ b:Bool,(b=true ↔ isName item.data.toList):=by
  rcases Classical.em (isName item.data.toList) with h | h
  ·exact ⟨true,by simp [h]⟩
  ·exact ⟨false,by simp [h]⟩
 clear hnm
 go_enter Tryz.func180,Tryz.ntmps180
 go_wp2_with fail
 refine wp_region_mix [(true,0),(true,1),(false,2),(true,3),(true,4),(true,6),(true,7),(false,5),(false,8),(true,9),(true,10)] (by kernel_rfl) (by kernel_rfl) ?_
 obtain ⟨W0,hW⟩:∃ W,W=(w.alloc (.cells #[.int .i64 id,.string item,.int .i64 kind,.int .i64 qty,.int .i64 price,.int .i64 ofI,.int .i64 day] 93)).drew:=⟨_,rfl⟩
 rw [← hW]
 have hE0:EvAt W0 w.heap.size ⟨id,item,kind,qty,price,ofI,day⟩:=by
  rw [hW];constructor <;> simp
 have hB0:Below w.heap.size w W0:=by rw [hW];exact ((Below.refl _ _).alloc (Nat.le_refl _) _).trans ((below_drew _).mono (by simp))
 clear hW
 have c1:=hE0.c1
 have f1:=fun n:Up W0=>(hE0.up n).c1
 have c2:=hE0.c2
 have f2:=fun n:Up W0=>(hE0.up n).c2
 have c3:=hE0.c3
 have f3:=fun n:Up W0=>(hE0.up n).c3
 have c4:=hE0.c4
 have f4:=fun n:Up W0=>(hE0.up n).c4
 have c5:=hE0.c5
 have f5:=fun n:Up W0=>(hE0.up n).c5
 have c6:=hE0.c6
 have f6:=fun n:Up W0=>(hE0.up n).c6
 repeat (refine mix_q rfl ?_;go_big_quiet_step (fail);refine wpQuiet_nil ?_)
 refine mix_n rfl ?_
 go_wp2_with fail
 refine (name_any item _ hs).mono ?_
 rintro e w' ⟨⟨b,rfl,hb⟩,hw⟩
 subst w'
 have HB:=hidE hb
 clear hb
 rcases b with _ | _
 ·go_wp2_with fail
  refine ⟨rfl,Below.refl _ _,?_⟩
  repeat (refine mix_q rfl ?_;go_big_quiet_step (fail);refine wpQuiet_nil ?_)
  refine mix_n rfl ?_
  go_wp2_with fail
  refine ⟨rfl,Below.refl _ _,?_⟩
  refine mix_n rfl ?_
  go_wp2_with fail
  refine ⟨rfl,Below.refl _ _,?_⟩
  repeat (refine mix_q rfl ?_;go_big_quiet_step (fail);refine wpQuiet_nil ?_)
  refine mix_nil ?_
  go_wp2
  go_ret
  refine ⟨⟨false,rfl,?_⟩,hB0⟩
  exact ⟨fun h=>(by cases h),fun h=>absurd (HB.out.2 h.1) (by simp)⟩
 ·have HN:=hidE (HB.out.1 rfl)
  clear HB
  go_wp2_with fail
  refine ⟨rfl,Below.refl _ _,?_⟩
  repeat (refine mix_q rfl ?_;go_big_quiet_step (fail);refine wpQuiet_nil ?_)
  refine mix_n rfl ?_
  go_wp2_with fail
  refine (within_at 0 99999 _).mono ?_
  rintro e W1 ⟨a1,b1,rfl,ca1,cb1,hb1⟩
  go_wp2_with fail
  refine ⟨rfl,hb1,?_⟩
  clear c1 f1 c2 f2 c3 f3 c4 f4 c5 f5 c6 f6
  have hE1:=hE0.below hb1
  have hB1:=hB0.trans (hb1.mono hB0.size)
  have c1:=hE1.c1
  have f1:=fun n:Up W1=>(hE1.up n).c1
  have c2:=hE1.c2
  have f2:=fun n:Up W1=>(hE1.up n).c2
  have c3:=hE1.c3
  have f3:=fun n:Up W1=>(hE1.up n).c3
  have c4:=hE1.c4
  have f4:=fun n:Up W1=>(hE1.up n).c4
  have c5:=hE1.c5
  have f5:=fun n:Up W1=>(hE1.up n).c5
  have c6:=hE1.c6
  have f6:=fun n:Up W1=>(hE1.up n).c6
  clear hE0 hb1
  repeat (refine mix_q rfl ?_;go_big_quiet_step (fail);refine wpQuiet_nil ?_)
  by_cases hd:0≤day∧day≤99999
  ·obtain ⟨hd0,hd1⟩:=hd
   refine mix_n rfl ?_
   go_wp2_with fail
   refine (within1_yes day 0 99999 a1 b1 _ ca1 cb1 (by omega) (by omega)).mono ?_
   rintro e w' ⟨rfl,hw⟩
   subst w'
   go_wp2_with fail
   refine ⟨rfl,Below.refl _ _,?_⟩
   repeat (refine mix_q rfl ?_;go_big_quiet_step (fail);refine wpQuiet_nil ?_)
   refine mix_nil ?_
   go_wp2_with fail
   refine (within_at 0 0 _).mono ?_
   rintro e W2 ⟨a2,b2,rfl,ca2,cb2,hb2⟩
   clear c1 f1 c2 f2 c3 f3 c4 f4 c5 f5 c6 f6
   have hE2:=hE1.below hb2
   have hB2:=hB1.trans (hb2.mono hB1.size)
   have c1:=hE2.c1
   have f1:=fun n:Up W2=>(hE2.up n).c1
   have c2:=hE2.c2
   have f2:=fun n:Up W2=>(hE2.up n).c2
   have c3:=hE2.c3
   have f3:=fun n:Up W2=>(hE2.up n).c3
   have c4:=hE2.c4
   have f4:=fun n:Up W2=>(hE2.up n).c4
   have c5:=hE2.c5
   have f5:=fun n:Up W2=>(hE2.up n).c5
   have c6:=hE2.c6
   have f6:=fun n:Up W2=>(hE2.up n).c6
   clear hE1 hb2
   go_wp2_with fail
   refine (within_at 1 100000 _).mono ?_
   rintro e W3 ⟨a3,b3,rfl,ca3,cb3,hb3⟩
   clear c1 f1 c2 f2 c3 f3 c4 f4 c5 f5 c6 f6
   have hE3:=hE2.below hb3
   have hB3:=hB2.trans (hb3.mono hB2.size)
   have ca2':=below_cell hb3 ca2
   have cb2':=below_cell hb3 cb2
   clear ca2 cb2
   have ca2:=ca2';have cb2:=cb2';clear ca2' cb2'
   have c1:=hE3.c1
   have f1:=fun n:Up W3=>(hE3.up n).c1
   have c2:=hE3.c2
   have f2:=fun n:Up W3=>(hE3.up n).c2
   have c3:=hE3.c3
   have f3:=fun n:Up W3=>(hE3.up n).c3
   have c4:=hE3.c4
   have f4:=fun n:Up W3=>(hE3.up n).c4
   have c5:=hE3.c5
   have f5:=fun n:Up W3=>(hE3.up n).c5
   have c6:=hE3.c6
   have f6:=fun n:Up W3=>(hE3.up n).c6
   clear hE2 hb3
   by_cases k1:kind=1
   ·subst k1
    go_wp2_with fail
    refine wp_region_mix [(true,0),(true,1),(true,2),(false,3),(true,4),(true,6),(true,7),(false,5),(false,8),(true,9),(true,10),(true,11),(true,12),(true,13),(false,14),(true,15),(true,16)] (by kernel_rfl) (by kernel_rfl) ?_
    obtain ⟨W4,hW⟩:∃ W,W=W3.drew:=⟨_,rfl⟩
    rw [← hW]
    have hb4:Below W3.heap.size W3 W4:=by rw [hW];exact below_drew _
    clear hW
    clear c1 f1 c2 f2 c3 f3 c4 f4 c5 f5 c6 f6
    have hE4:=hE3.below hb4
    have hB4:=hB3.trans (hb4.mono hB3.size)
    have ca2':=below_cell hb4 ca2;have cb2':=below_cell hb4 cb2;clear ca2 cb2;have ca2:=ca2';have cb2:=cb2';clear ca2' cb2'
    have ca3':=below_cell hb4 ca3;have cb3':=below_cell hb4 cb3;clear ca3 cb3;have ca3:=ca3';have cb3:=cb3';clear ca3' cb3'
    have c1:=hE4.c1
    have f1:=fun n:Up W4=>(hE4.up n).c1
    have c2:=hE4.c2
    have f2:=fun n:Up W4=>(hE4.up n).c2
    have c3:=hE4.c3
    have f3:=fun n:Up W4=>(hE4.up n).c3
    have c4:=hE4.c4
    have f4:=fun n:Up W4=>(hE4.up n).c4
    have c5:=hE4.c5
    have f5:=fun n:Up W4=>(hE4.up n).c5
    have c6:=hE4.c6
    have f6:=fun n:Up W4=>(hE4.up n).c6
    clear hE3 hb4
    repeat (refine mix_q rfl ?_;go_big_quiet_step (fail);refine wpQuiet_nil ?_)
    by_cases hq:1≤qty∧qty≤100000
    ·skip
     refine mix_n rfl ?_
     go_wp2_with fail
     refine (within1_yes qty 1 100000 a3 b3 _ ca3 cb3 (by omega) (by omega)).mono ?_
     rintro e w' ⟨rfl,hw⟩
     subst w'
     go_wp2_with fail
     refine ⟨rfl,Below.refl _ _,?_⟩
     repeat (refine mix_q rfl ?_;go_big_quiet_step (fail);refine wpQuiet_nil ?_)
     refine mix_n rfl ?_
     go_wp2_with fail
     refine (within_at 0 1000000 _).mono ?_
     rintro e W5 ⟨a5,b5,rfl,ca5,cb5,hb5⟩
     go_wp2_with fail
     refine ⟨rfl,hb5,?_⟩
     clear c1 f1 c2 f2 c3 f3 c4 f4 c5 f5 c6 f6
     have hE5:=hE4.below hb5
     have hB5:=hB4.trans (hb5.mono hB4.size)
     have ca2':=below_cell hb5 ca2
     have cb2':=below_cell hb5 cb2
     clear ca2 cb2
     have ca2:=ca2';have cb2:=cb2';clear ca2' cb2'
     have ca3':=below_cell hb5 ca3
     have cb3':=below_cell hb5 cb3
     clear ca3 cb3
     have ca3:=ca3';have cb3:=cb3';clear ca3' cb3'
     have c1:=hE5.c1
     have f1:=fun n:Up W5=>(hE5.up n).c1
     have c2:=hE5.c2
     have f2:=fun n:Up W5=>(hE5.up n).c2
     have c3:=hE5.c3
     have f3:=fun n:Up W5=>(hE5.up n).c3
     have c4:=hE5.c4
     have f4:=fun n:Up W5=>(hE5.up n).c4
     have c5:=hE5.c5
     have f5:=fun n:Up W5=>(hE5.up n).c5
     have c6:=hE5.c6
     have f6:=fun n:Up W5=>(hE5.up n).c6
     clear hE4 hb5
     repeat (refine mix_q rfl ?_;go_big_quiet_step (fail);refine wpQuiet_nil ?_)
     by_cases hp:0≤price∧price≤1000000
     ·skip
      refine mix_n rfl ?_
      go_wp2_with fail
      refine (within1_yes price 0 1000000 a5 b5 _ ca5 cb5 (by omega) (by omega)).mono ?_
      rintro e w' ⟨rfl,hw⟩
      subst w'
      go_wp2_with fail
      refine ⟨rfl,Below.refl _ _,?_⟩
      repeat (refine mix_q rfl ?_;go_big_quiet_step (fail);refine wpQuiet_nil ?_)
      by_cases ho2:0≤ofI∧ofI≤0
      ·skip
       refine mix_n rfl ?_
       go_wp2_with fail
       refine (within1_yes ofI 0 0 a2 b2 _ ca2 cb2 (by omega) (by omega)).mono ?_
       rintro e w' ⟨rfl,hw⟩
       subst w'
       go_wp2_with fail
       refine ⟨rfl,Below.refl _ _,?_⟩
       repeat (refine mix_q rfl ?_;go_big_quiet_step (fail);refine wpQuiet_nil ?_)
       refine mix_nil ?_
       go_wp2
       go_ret
       refine ⟨⟨true,rfl,?_⟩,hB5⟩
       exact ⟨fun _=>⟨HN.out,⟨hd0,hd1⟩,.inl ⟨rfl,hq,hp,(show ofI=0 by omega)⟩⟩,fun _=>rfl⟩
      ·skip
       refine mix_n rfl ?_
       go_wp2_with fail
       refine (within1_no ofI 0 0 a2 b2 _ ca2 cb2 (by omega)).mono ?_
       rintro e w' ⟨rfl,hw⟩
       subst w'
       go_wp2_with fail
       refine ⟨rfl,Below.refl _ _,?_⟩
       repeat (refine mix_q rfl ?_;go_big_quiet_step (fail);refine wpQuiet_nil ?_)
       refine mix_nil ?_
       go_wp2
       go_ret
       refine ⟨⟨false,rfl,?_⟩,hB5⟩
       exact ⟨fun h=>(by cases h),fun h=>(by have hk:=h.2.2;unfold rtK at hk;simp only at hk;omega)⟩
     ·skip
      refine mix_n rfl ?_
      go_wp2_with fail
      refine (within1_no price 0 1000000 a5 b5 _ ca5 cb5 (by omega)).mono ?_
      rintro e w' ⟨rfl,hw⟩
      subst w'
      go_wp2_with fail
      refine ⟨rfl,Below.refl _ _,?_⟩
      repeat (refine mix_q rfl ?_;go_big_quiet_step (fail);refine wpQuiet_nil ?_)
      refine mix_n rfl ?_
      go_wp2_with fail
      refine ⟨rfl,Below.refl _ _,?_⟩
      repeat (refine mix_q rfl ?_;go_big_quiet_step (fail);refine wpQuiet_nil ?_)
      refine mix_nil ?_
      go_wp2
      go_ret
      refine ⟨⟨false,rfl,?_⟩,hB5⟩
      exact ⟨fun h=>(by cases h),fun h=>(by have hk:=h.2.2;unfold rtK at hk;simp only at hk;omega)⟩
    ·skip
     refine mix_n rfl ?_
     go_wp2_with fail
     refine (within1_no qty 1 100000 a3 b3 _ ca3 cb3 (by omega)).mono ?_
     rintro e w' ⟨rfl,hw⟩
     subst w'
     go_wp2_with fail
     refine ⟨rfl,Below.refl _ _,?_⟩
     repeat (refine mix_q rfl ?_;go_big_quiet_step (fail);refine wpQuiet_nil ?_)
     refine mix_n rfl ?_
     go_wp2_with fail
     refine ⟨rfl,Below.refl _ _,?_⟩
     refine mix_n rfl ?_
     go_wp2_with fail
     refine ⟨rfl,Below.refl _ _,?_⟩
     repeat (refine mix_q rfl ?_;go_big_quiet_step (fail);refine wpQuiet_nil ?_)
     refine mix_n rfl ?_
     go_wp2_with fail
     refine ⟨rfl,Below.refl _ _,?_⟩
     repeat (refine mix_q rfl ?_;go_big_quiet_step (fail);refine wpQuiet_nil ?_)
     refine mix_nil ?_
     go_wp2
     go_ret
     refine ⟨⟨false,rfl,?_⟩,hB4⟩
     exact ⟨fun h=>(by cases h),fun h=>(by have hk:=h.2.2;unfold rtK at hk;simp only at hk;omega)⟩
   by_cases k2:kind=2
   ·subst k2
    go_wp2_with fail
    refine wp_region_mix [(true,0),(true,1),(true,2),(false,3),(true,4),(true,6),(true,7),(false,5),(false,8),(true,9),(true,10),(true,12),(true,13),(false,11),(false,14),(true,15),(true,16)] (by kernel_rfl) (by kernel_rfl) ?_
    obtain ⟨W4,hW⟩:∃ W,W=W3.drew:=⟨_,rfl⟩
    rw [← hW]
    have hb4:Below W3.heap.size W3 W4:=by rw [hW];exact below_drew _
    clear hW
    clear c1 f1 c2 f2 c3 f3 c4 f4 c5 f5 c6 f6
    have hE4:=hE3.below hb4
    have hB4:=hB3.trans (hb4.mono hB3.size)
    have ca2':=below_cell hb4 ca2;have cb2':=below_cell hb4 cb2;clear ca2 cb2;have ca2:=ca2';have cb2:=cb2';clear ca2' cb2'
    have ca3':=below_cell hb4 ca3;have cb3':=below_cell hb4 cb3;clear ca3 cb3;have ca3:=ca3';have cb3:=cb3';clear ca3' cb3'
    have c1:=hE4.c1
    have f1:=fun n:Up W4=>(hE4.up n).c1
    have c2:=hE4.c2
    have f2:=fun n:Up W4=>(hE4.up n).c2
    have c3:=hE4.c3
    have f3:=fun n:Up W4=>(hE4.up n).c3
    have c4:=hE4.c4
    have f4:=fun n:Up W4=>(hE4.up n).c4
    have c5:=hE4.c5
    have f5:=fun n:Up W4=>(hE4.up n).c5
    have c6:=hE4.c6
    have f6:=fun n:Up W4=>(hE4.up n).c6
    clear hE3 hb4
    repeat (refine mix_q rfl ?_;go_big_quiet_step (fail);refine wpQuiet_nil ?_)
    by_cases hq:0≤qty∧qty≤0
    ·skip
     refine mix_n rfl ?_
     go_wp2_with fail
     refine (within1_yes qty 0 0 a2 b2 _ ca2 cb2 (by omega) (by omega)).mono ?_
     rintro e w' ⟨rfl,hw⟩
     subst w'
     go_wp2_with fail
     refine ⟨rfl,Below.refl _ _,?_⟩
     repeat (refine mix_q rfl ?_;go_big_quiet_step (fail);refine wpQuiet_nil ?_)
     refine mix_n rfl ?_
     go_wp2_with fail
     refine (within_at 1 100000000000 _).mono ?_
     rintro e W5 ⟨a5,b5,rfl,ca5,cb5,hb5⟩
     go_wp2_with fail
     refine ⟨rfl,hb5,?_⟩
     clear c1 f1 c2 f2 c3 f3 c4 f4 c5 f5 c6 f6
     have hE5:=hE4.below hb5
     have hB5:=hB4.trans (hb5.mono hB4.size)
     have ca2':=below_cell hb5 ca2
     have cb2':=below_cell hb5 cb2
     clear ca2 cb2
     have ca2:=ca2';have cb2:=cb2';clear ca2' cb2'
     have ca3':=below_cell hb5 ca3
     have cb3':=below_cell hb5 cb3
     clear ca3 cb3
     have ca3:=ca3';have cb3:=cb3';clear ca3' cb3'
     have c1:=hE5.c1
     have f1:=fun n:Up W5=>(hE5.up n).c1
     have c2:=hE5.c2
     have f2:=fun n:Up W5=>(hE5.up n).c2
     have c3:=hE5.c3
     have f3:=fun n:Up W5=>(hE5.up n).c3
     have c4:=hE5.c4
     have f4:=fun n:Up W5=>(hE5.up n).c4
     have c5:=hE5.c5
     have f5:=fun n:Up W5=>(hE5.up n).c5
     have c6:=hE5.c6
     have f6:=fun n:Up W5=>(hE5.up n).c6
     clear hE4 hb5
     repeat (refine mix_q rfl ?_;go_big_quiet_step (fail);refine wpQuiet_nil ?_)
     by_cases hp:1≤price∧price≤100000000000
     ·skip
      refine mix_n rfl ?_
      go_wp2_with fail
      refine (within1_yes price 1 100000000000 a5 b5 _ ca5 cb5 (by omega) (by omega)).mono ?_
      rintro e w' ⟨rfl,hw⟩
      subst w'
      go_wp2_with fail
      refine ⟨rfl,Below.refl _ _,?_⟩
      repeat (refine mix_q rfl ?_;go_big_quiet_step (fail);refine wpQuiet_nil ?_)
      refine mix_n rfl ?_
      go_wp2_with fail
      refine (within_at 1 9223372036854775807 _).mono ?_
      rintro e W6 ⟨a6,b6,rfl,ca6,cb6,hb6⟩
      go_wp2_with fail
      refine ⟨rfl,hb6,?_⟩
      clear c1 f1 c2 f2 c3 f3 c4 f4 c5 f5 c6 f6
      have hE6:=hE5.below hb6
      have hB6:=hB5.trans (hb6.mono hB5.size)
      have ca2':=below_cell hb6 ca2
      have cb2':=below_cell hb6 cb2
      clear ca2 cb2
      have ca2:=ca2';have cb2:=cb2';clear ca2' cb2'
      have ca3':=below_cell hb6 ca3
      have cb3':=below_cell hb6 cb3
      clear ca3 cb3
      have ca3:=ca3';have cb3:=cb3';clear ca3' cb3'
      have c1:=hE6.c1
      have f1:=fun n:Up W6=>(hE6.up n).c1
      have c2:=hE6.c2
      have f2:=fun n:Up W6=>(hE6.up n).c2
      have c3:=hE6.c3
      have f3:=fun n:Up W6=>(hE6.up n).c3
      have c4:=hE6.c4
      have f4:=fun n:Up W6=>(hE6.up n).c4
      have c5:=hE6.c5
      have f5:=fun n:Up W6=>(hE6.up n).c5
      have c6:=hE6.c6
      have f6:=fun n:Up W6=>(hE6.up n).c6
      clear hE5 hb6
      repeat (refine mix_q rfl ?_;go_big_quiet_step (fail);refine wpQuiet_nil ?_)
      by_cases ho2:1≤ofI∧ofI≤9223372036854775807
      ·skip
       refine mix_n rfl ?_
       go_wp2_with fail
       refine (within1_yes ofI 1 9223372036854775807 a6 b6 _ ca6 cb6 (by omega) (by omega)).mono ?_
       rintro e w' ⟨rfl,hw⟩
       subst w'
       go_wp2_with fail
       refine ⟨rfl,Below.refl _ _,?_⟩
       repeat (refine mix_q rfl ?_;go_big_quiet_step (fail);refine wpQuiet_nil ?_)
       refine mix_nil ?_
       go_wp2
       go_ret
       refine ⟨⟨true,rfl,?_⟩,hB6⟩
       exact ⟨fun _=>⟨HN.out,⟨hd0,hd1⟩,.inr (.inl ⟨rfl,(show qty=0 by omega),hp,ho2⟩)⟩,fun _=>rfl⟩
      ·skip
       refine mix_n rfl ?_
       go_wp2_with fail
       refine (within1_no ofI 1 9223372036854775807 a6 b6 _ ca6 cb6 (by omega)).mono ?_
       rintro e w' ⟨rfl,hw⟩
       subst w'
       go_wp2_with fail
       refine ⟨rfl,Below.refl _ _,?_⟩
       repeat (refine mix_q rfl ?_;go_big_quiet_step (fail);refine wpQuiet_nil ?_)
       refine mix_nil ?_
       go_wp2
       go_ret
       refine ⟨⟨false,rfl,?_⟩,hB6⟩
       exact ⟨fun h=>(by cases h),fun h=>(by have hk:=h.2.2;unfold rtK at hk;simp only at hk;omega)⟩
     ·skip
      refine mix_n rfl ?_
      go_wp2_with fail
      refine (within1_no price 1 100000000000 a5 b5 _ ca5 cb5 (by omega)).mono ?_
      rintro e w' ⟨rfl,hw⟩
      subst w'
      go_wp2_with fail
      refine ⟨rfl,Below.refl _ _,?_⟩
      repeat (refine mix_q rfl ?_;go_big_quiet_step (fail);refine wpQuiet_nil ?_)
      refine mix_n rfl ?_
      go_wp2_with fail
      refine ⟨rfl,Below.refl _ _,?_⟩
      refine mix_n rfl ?_
      go_wp2_with fail
      refine ⟨rfl,Below.refl _ _,?_⟩
      repeat (refine mix_q rfl ?_;go_big_quiet_step (fail);refine wpQuiet_nil ?_)
      refine mix_nil ?_
      go_wp2
      go_ret
      refine ⟨⟨false,rfl,?_⟩,hB5⟩
      exact ⟨fun h=>(by cases h),fun h=>(by have hk:=h.2.2;unfold rtK at hk;simp only at hk;omega)⟩
    ·skip
     refine mix_n rfl ?_
     go_wp2_with fail
     refine (within1_no qty 0 0 a2 b2 _ ca2 cb2 (by omega)).mono ?_
     rintro e w' ⟨rfl,hw⟩
     subst w'
     go_wp2_with fail
     refine ⟨rfl,Below.refl _ _,?_⟩
     repeat (refine mix_q rfl ?_;go_big_quiet_step (fail);refine wpQuiet_nil ?_)
     refine mix_n rfl ?_
     go_wp2_with fail
     refine ⟨rfl,Below.refl _ _,?_⟩
     refine mix_n rfl ?_
     go_wp2_with fail
     refine ⟨rfl,Below.refl _ _,?_⟩
     repeat (refine mix_q rfl ?_;go_big_quiet_step (fail);refine wpQuiet_nil ?_)
     refine mix_n rfl ?_
     go_wp2_with fail
     refine ⟨rfl,Below.refl _ _,?_⟩
     refine mix_n rfl ?_
     go_wp2_with fail
     refine ⟨rfl,Below.refl _ _,?_⟩
     repeat (refine mix_q rfl ?_;go_big_quiet_step (fail);refine wpQuiet_nil ?_)
     refine mix_nil ?_
     go_wp2
     go_ret
     refine ⟨⟨false,rfl,?_⟩,hB4⟩
     exact ⟨fun h=>(by cases h),fun h=>(by have hk:=h.2.2;unfold rtK at hk;simp only at hk;omega)⟩
   by_cases k3:kind=3
   ·subst k3
    by_cases hq:1≤qty∧qty≤100000
    ·skip
     go_wp2_with fail
     refine (within1_yes qty 1 100000 a3 b3 _ ca3 cb3 (by omega) (by omega)).mono ?_
     rintro e w' ⟨rfl,hw⟩
     subst w'
     by_cases hp:0≤price∧price≤0
     ·skip
      go_wp2_with fail
      refine (within1_yes price 0 0 a2 b2 _ ca2 cb2 (by omega) (by omega)).mono ?_
      rintro e w' ⟨rfl,hw⟩
      subst w'
      by_cases ho2:0≤ofI∧ofI≤0
      ·skip
       go_wp2_with fail
       refine (within1_yes ofI 0 0 a2 b2 _ ca2 cb2 (by omega) (by omega)).mono ?_
       rintro e w' ⟨rfl,hw⟩
       subst w'
       go_wp2
       go_ret
       refine ⟨⟨true,rfl,?_⟩,hB3⟩
       exact ⟨fun _=>⟨HN.out,⟨hd0,hd1⟩,.inr (.inr (.inl ⟨rfl,hq,(show price=0 by omega),(show ofI=0 by omega)⟩))⟩,fun _=>rfl⟩
      ·skip
       go_wp2_with fail
       refine (within1_no ofI 0 0 a2 b2 _ ca2 cb2 (by omega)).mono ?_
       rintro e w' ⟨rfl,hw⟩
       subst w'
       go_wp2
       go_ret
       refine ⟨⟨false,rfl,?_⟩,hB3⟩
       exact ⟨fun h=>(by cases h),fun h=>(by have hk:=h.2.2;unfold rtK at hk;simp only at hk;omega)⟩
     ·skip
      go_wp2_with fail
      refine (within1_no price 0 0 a2 b2 _ ca2 cb2 (by omega)).mono ?_
      rintro e w' ⟨rfl,hw⟩
      subst w'
      go_wp2
      go_ret
      refine ⟨⟨false,rfl,?_⟩,hB3⟩
      exact ⟨fun h=>(by cases h),fun h=>(by have hk:=h.2.2;unfold rtK at hk;simp only at hk;omega)⟩
    ·skip
     go_wp2_with fail
     refine (within1_no qty 1 100000 a3 b3 _ ca3 cb3 (by omega)).mono ?_
     rintro e w' ⟨rfl,hw⟩
     subst w'
     go_wp2
     go_ret
     refine ⟨⟨false,rfl,?_⟩,hB3⟩
     exact ⟨fun h=>(by cases h),fun h=>(by have hk:=h.2.2;unfold rtK at hk;simp only at hk;omega)⟩
   by_cases k4:kind=4
   ·subst k4
    go_wp2_with fail
    refine wp_region_mix [(true,1),(true,2),(false,0),(false,3),(true,4),(true,5),(true,6),(true,7),(false,8),(true,9),(true,10),(true,11),(true,12),(true,13),(false,14),(true,15),(true,16)] (by kernel_rfl) (by kernel_rfl) ?_
    obtain ⟨W4,hW⟩:∃ W,W=W3.drew:=⟨_,rfl⟩
    rw [← hW]
    have hb4:Below W3.heap.size W3 W4:=by rw [hW];exact below_drew _
    clear hW
    clear c1 f1 c2 f2 c3 f3 c4 f4 c5 f5 c6 f6
    have hE4:=hE3.below hb4
    have hB4:=hB3.trans (hb4.mono hB3.size)
    have ca2':=below_cell hb4 ca2;have cb2':=below_cell hb4 cb2;clear ca2 cb2;have ca2:=ca2';have cb2:=cb2';clear ca2' cb2'
    have ca3':=below_cell hb4 ca3;have cb3':=below_cell hb4 cb3;clear ca3 cb3;have ca3:=ca3';have cb3:=cb3';clear ca3' cb3'
    have c1:=hE4.c1
    have f1:=fun n:Up W4=>(hE4.up n).c1
    have c2:=hE4.c2
    have f2:=fun n:Up W4=>(hE4.up n).c2
    have c3:=hE4.c3
    have f3:=fun n:Up W4=>(hE4.up n).c3
    have c4:=hE4.c4
    have f4:=fun n:Up W4=>(hE4.up n).c4
    have c5:=hE4.c5
    have f5:=fun n:Up W4=>(hE4.up n).c5
    have c6:=hE4.c6
    have f6:=fun n:Up W4=>(hE4.up n).c6
    clear hE3 hb4
    repeat (refine mix_q rfl ?_;go_big_quiet_step (fail);refine wpQuiet_nil ?_)
    refine mix_n rfl ?_
    go_wp2_with fail
    refine (within_at 0 100000 _).mono ?_
    rintro e W5 ⟨a5,b5,rfl,ca5,cb5,hb5⟩
    go_wp2_with fail
    refine ⟨rfl,hb5,?_⟩
    clear c1 f1 c2 f2 c3 f3 c4 f4 c5 f5 c6 f6
    have hE5:=hE4.below hb5
    have hB5:=hB4.trans (hb5.mono hB4.size)
    have ca2':=below_cell hb5 ca2
    have cb2':=below_cell hb5 cb2
    clear ca2 cb2
    have ca2:=ca2';have cb2:=cb2';clear ca2' cb2'
    have ca3':=below_cell hb5 ca3
    have cb3':=below_cell hb5 cb3
    clear ca3 cb3
    have ca3:=ca3';have cb3:=cb3';clear ca3' cb3'
    have c1:=hE5.c1
    have f1:=fun n:Up W5=>(hE5.up n).c1
    have c2:=hE5.c2
    have f2:=fun n:Up W5=>(hE5.up n).c2
    have c3:=hE5.c3
    have f3:=fun n:Up W5=>(hE5.up n).c3
    have c4:=hE5.c4
    have f4:=fun n:Up W5=>(hE5.up n).c4
    have c5:=hE5.c5
    have f5:=fun n:Up W5=>(hE5.up n).c5
    have c6:=hE5.c6
    have f6:=fun n:Up W5=>(hE5.up n).c6
    clear hE4 hb5
    repeat (refine mix_q rfl ?_;go_big_quiet_step (fail);refine wpQuiet_nil ?_)
    by_cases hq:0≤qty∧qty≤100000
    ·skip
     refine mix_n rfl ?_
     go_wp2_with fail
     refine (within1_yes qty 0 100000 a5 b5 _ ca5 cb5 (by omega) (by omega)).mono ?_
     rintro e w' ⟨rfl,hw⟩
     subst w'
     go_wp2_with fail
     refine ⟨rfl,Below.refl _ _,?_⟩
     repeat (refine mix_q rfl ?_;go_big_quiet_step (fail);refine wpQuiet_nil ?_)
     by_cases hp:0≤price∧price≤0
     ·skip
      refine mix_n rfl ?_
      go_wp2_with fail
      refine (within1_yes price 0 0 a2 b2 _ ca2 cb2 (by omega) (by omega)).mono ?_
      rintro e w' ⟨rfl,hw⟩
      subst w'
      go_wp2_with fail
      refine ⟨rfl,Below.refl _ _,?_⟩
      repeat (refine mix_q rfl ?_;go_big_quiet_step (fail);refine wpQuiet_nil ?_)
      by_cases ho2:0≤ofI∧ofI≤0
      ·skip
       refine mix_n rfl ?_
       go_wp2_with fail
       refine (within1_yes ofI 0 0 a2 b2 _ ca2 cb2 (by omega) (by omega)).mono ?_
       rintro e w' ⟨rfl,hw⟩
       subst w'
       go_wp2_with fail
       refine ⟨rfl,Below.refl _ _,?_⟩
       repeat (refine mix_q rfl ?_;go_big_quiet_step (fail);refine wpQuiet_nil ?_)
       refine mix_nil ?_
       go_wp2
       go_ret
       refine ⟨⟨true,rfl,?_⟩,hB5⟩
       exact ⟨fun _=>⟨HN.out,⟨hd0,hd1⟩,.inr (.inr (.inr ⟨rfl,hq,(show price=0 by omega),(show ofI=0 by omega)⟩))⟩,fun _=>rfl⟩
      ·skip
       refine mix_n rfl ?_
       go_wp2_with fail
       refine (within1_no ofI 0 0 a2 b2 _ ca2 cb2 (by omega)).mono ?_
       rintro e w' ⟨rfl,hw⟩
       subst w'
       go_wp2_with fail
       refine ⟨rfl,Below.refl _ _,?_⟩
       repeat (refine mix_q rfl ?_;go_big_quiet_step (fail);refine wpQuiet_nil ?_)
       refine mix_nil ?_
       go_wp2
       go_ret
       refine ⟨⟨false,rfl,?_⟩,hB5⟩
       exact ⟨fun h=>(by cases h),fun h=>(by have hk:=h.2.2;unfold rtK at hk;simp only at hk;omega)⟩
     ·skip
      refine mix_n rfl ?_
      go_wp2_with fail
      refine (within1_no price 0 0 a2 b2 _ ca2 cb2 (by omega)).mono ?_
      rintro e w' ⟨rfl,hw⟩
      subst w'
      go_wp2_with fail
      refine ⟨rfl,Below.refl _ _,?_⟩
      repeat (refine mix_q rfl ?_;go_big_quiet_step (fail);refine wpQuiet_nil ?_)
      refine mix_n rfl ?_
      go_wp2_with fail
      refine ⟨rfl,Below.refl _ _,?_⟩
      repeat (refine mix_q rfl ?_;go_big_quiet_step (fail);refine wpQuiet_nil ?_)
      refine mix_nil ?_
      go_wp2
      go_ret
      refine ⟨⟨false,rfl,?_⟩,hB5⟩
      exact ⟨fun h=>(by cases h),fun h=>(by have hk:=h.2.2;unfold rtK at hk;simp only at hk;omega)⟩
    ·skip
     refine mix_n rfl ?_
     go_wp2_with fail
     refine (within1_no qty 0 100000 a5 b5 _ ca5 cb5 (by omega)).mono ?_
     rintro e w' ⟨rfl,hw⟩
     subst w'
     go_wp2_with fail
     refine ⟨rfl,Below.refl _ _,?_⟩
     repeat (refine mix_q rfl ?_;go_big_quiet_step (fail);refine wpQuiet_nil ?_)
     refine mix_n rfl ?_
     go_wp2_with fail
     refine ⟨rfl,Below.refl _ _,?_⟩
     repeat (refine mix_q rfl ?_;go_big_quiet_step (fail);refine wpQuiet_nil ?_)
     refine mix_n rfl ?_
     go_wp2_with fail
     refine ⟨rfl,Below.refl _ _,?_⟩
     repeat (refine mix_q rfl ?_;go_big_quiet_step (fail);refine wpQuiet_nil ?_)
     refine mix_nil ?_
     go_wp2
     go_ret
     refine ⟨⟨false,rfl,?_⟩,hB5⟩
     exact ⟨fun h=>(by cases h),fun h=>(by have hk:=h.2.2;unfold rtK at hk;simp only at hk;omega)⟩
   go_wp2
   go_ret
   refine ⟨⟨false,rfl,?_⟩,hB3⟩
   exact ⟨fun h=>(by cases h),fun h=>(by have hk:=h.2.2;unfold rtK at hk;simp only at hk;omega)⟩
  ·skip
   refine mix_n rfl ?_
   go_wp2_with fail
   refine (within1_no day 0 99999 a1 b1 _ ca1 cb1 (by omega)).mono ?_
   rintro e w' ⟨rfl,hw⟩
   subst w'
   go_wp2_with fail
   refine ⟨rfl,Below.refl _ _,?_⟩
   repeat (refine mix_q rfl ?_;go_big_quiet_step (fail);refine wpQuiet_nil ?_)
   refine mix_nil ?_
   go_wp2
   go_ret
   refine ⟨⟨false,rfl,?_⟩,hB1⟩
   exact ⟨fun h=>(by cases h),fun h=>absurd h.2.1 hd⟩
def cmpI (x y:Int):Int:=if x < y then -1 else if y < x then 1 else 0
def orI (x y z:Int):Int:=if x=0 then (if y=0 then z else y) else x
def cmpE (a b:Ev):Int:=orI (cmpI a.day b.day) (cmpI a.kind b.kind) (cmpI a.id b.id)
theorem nan_any (x:Int) (w:World):Calls Tryz.prog 158 #[.int .i64 x] w fun e w'=>e = .returned (.bool false)∧w'=w:=by
 go_enter Tryz.func158,Tryz.ntmps158
 go_wp2
 go_ret
 exact ⟨rfl,rfl⟩
theorem cmp_any (x y:Int) (w:World):Calls Tryz.prog 95 #[.int .i64 x,.int .i64 y] w fun e w'=>e = .returned (.int .i64 (cmpI x y))∧w'=w:=by
 by_cases h1:x < y
 ·have e:cmpI x y = -1:=by unfold cmpI;rw [if_pos h1]
  rw [e]
  clear e
  go_enter Tryz.func95,Tryz.ntmps95
  go_wp2_with (go_at_call 158;refine (nan_any _ _).mono ?_;rintro e w' ⟨rfl,rfl⟩)
  go_ret
  exact ⟨rfl,rfl⟩
 ·by_cases h2:y < x
  ·have e:cmpI x y=1:=by unfold cmpI;rw [if_neg h1,if_pos h2]
   rw [e]
   clear e
   go_enter Tryz.func95,Tryz.ntmps95
   go_wp2_with (go_at_call 158;refine (nan_any _ _).mono ?_;rintro e w' ⟨rfl,rfl⟩)
   go_ret
   exact ⟨rfl,rfl⟩
  ·have e:cmpI x y=0:=by unfold cmpI;rw [if_neg h1,if_neg h2]
   rw [e]
   clear e
   go_enter Tryz.func95,Tryz.ntmps95
   go_wp2_with (go_at_call 158;refine (nan_any _ _).mono ?_;rintro e w' ⟨rfl,rfl⟩)
   go_ret
   exact ⟨rfl,rfl⟩
set_option maxHeartbeats 1000000 in
theorem or_any (x y z:Int) (b:Nat) (w:World) (hx:w.cell? ⟨b,0,none⟩=some (.int .i64 x)) (hy:w.cell? ⟨b,1,none⟩=some (.int .i64 y)) (hz:w.cell? ⟨b,2,none⟩=some (.int .i64 z)) :
  Calls Tryz.prog 94 #[.slice (some ⟨b,0,none⟩) 3 3] w fun e w'=>e = .returned (.int .i64 (orI x y z))∧w'=w:=by
 by_cases h1:x=0
 ·by_cases h2:y=0
  ·by_cases h3:z=0
   ·have e:orI x y z=0:=by unfold orI;rw [if_pos h1,if_pos h2];exact h3
    rw [e]
    subst h1 h2 h3
    clear e
    go_enter Tryz.func94,Tryz.ntmps94
    go_wp2
    refine wp_loop_rounds 4 ?_
    rw [rounds_succ]
    go_wp2
    rw [rounds_succ]
    go_wp2
    rw [rounds_succ]
    go_wp2
    rw [rounds_succ]
    go_wp2
    go_ret
    exact ⟨rfl,rfl⟩
   ·have e:orI x y z=z:=by unfold orI;rw [if_pos h1,if_pos h2]
    rw [e]
    subst h1 h2
    clear e
    go_enter Tryz.func94,Tryz.ntmps94
    go_wp2
    refine wp_loop_rounds 3 ?_
    rw [rounds_succ]
    go_wp2
    rw [rounds_succ]
    go_wp2
    rw [rounds_succ]
    go_wp2
    go_ret
    exact ⟨rfl,rfl⟩
  ·have e:orI x y z=y:=by unfold orI;rw [if_pos h1,if_neg h2]
   rw [e]
   subst h1
   clear e
   go_enter Tryz.func94,Tryz.ntmps94
   go_wp2
   refine wp_loop_rounds 2 ?_
   rw [rounds_succ]
   go_wp2
   rw [rounds_succ]
   go_wp2
   go_ret
   exact ⟨rfl,rfl⟩
 ·have e:orI x y z=x:=by unfold orI;rw [if_neg h1]
  rw [e]
  clear e
  go_enter Tryz.func94,Tryz.ntmps94
  go_wp2
  refine wp_loop_rounds 1 ?_
  rw [rounds_succ]
  go_wp2
  go_ret
  exact ⟨rfl,rfl⟩
set_option maxHeartbeats 4000000 in
theorem compare_any (a b:Ev) (w:World) :
  Calls Tryz.prog 49 #[evV a,evV b] w fun e w'=>e = .returned (.int .i64 (cmpE a b))∧Below w.heap.size w w':=by
 obtain ⟨id,item,kind,qty,price,ofI,day⟩:=a
 obtain ⟨id2,item2,kind2,qty2,price2,ofI2,day2⟩:=b
 have HC:Hid (cmpE ⟨id,item,kind,qty,price,ofI,day⟩ ⟨id2,item2,kind2,qty2,price2,ofI2,day2⟩=orI (cmpI day day2) (cmpI kind kind2) (cmpI id id2)):=rfl
 rw [HC.out]
 clear HC
 unfold evV
 simp only
 have hU:=up_ne
 go_enter Tryz.func49,Tryz.ntmps49
 go_wp2_with fail
 refine wp_region_mix [(true,0),(true,1),(true,2),(true,3),(true,5),(true,6),(true,7),(true,8),(true,10),(true,11),(true,12),(true,13),(false,4),(false,9),(false,14),(false,15),(false,16),(true,17)] (by kernel_rfl) (by kernel_rfl) ?_
 obtain ⟨W0,hW⟩:∃ W,W=((w.alloc (.cells #[.int .i64 id,.string item,.int .i64 kind,.int .i64 qty,.int .i64 price,.int .i64 ofI,.int .i64 day] 93)).alloc (.cells #[.int .i64 id2,.string item2,.int .i64 kind2,.int .i64 qty2,.int .i64 price2,.int .i64 ofI2,.int .i64 day2] 93)).drew:=⟨_,rfl⟩
 rw [← hW]
 have hE:EvAt W0 w.heap.size ⟨id,item,kind,qty,price,ofI,day⟩:=by
  rw [hW];constructor <;> simp
 have hF:EvAt W0 (w.heap.size + 1) ⟨id2,item2,kind2,qty2,price2,ofI2,day2⟩:=by
  rw [hW];constructor <;> simp
 have hB0:Below w.heap.size w W0:=by rw [hW];exact (((Below.refl _ _).alloc (Nat.le_refl _) _).alloc (by simp) _).trans ((below_drew _).mono (by simp;omega))
 clear hW
 have f0:=fun n:Up W0=>(hE.up n).c0
 have f2:=fun n:Up W0=>(hE.up n).c2
 have f6:=fun n:Up W0=>(hE.up n).c6
 have g0:=fun n:Up W0=>(hF.up n).c0
 have g2:=fun n:Up W0=>(hF.up n).c2
 have g6:=fun n:Up W0=>(hF.up n).c6
 repeat (refine mix_q rfl ?_;go_big_quiet_step (fail);refine wpQuiet_nil ?_)
 refine mix_n rfl ?_
 go_wp2_with fail
 refine (cmp_any day day2 _).mono ?_
 rintro e w' ⟨rfl,hw⟩
 subst w'
 go_wp2_with fail
 refine ⟨rfl,Below.refl _ _,?_⟩
 refine mix_n rfl ?_
 go_wp2_with fail
 refine (cmp_any kind kind2 _).mono ?_
 rintro e w' ⟨rfl,hw⟩
 subst w'
 go_wp2_with fail
 refine ⟨rfl,Below.refl _ _,?_⟩
 refine mix_n rfl ?_
 go_wp2_with fail
 refine (cmp_any id id2 _).mono ?_
 rintro e w' ⟨rfl,hw⟩
 subst w'
 go_wp2_with fail
 refine ⟨rfl,Below.refl _ _,?_⟩
 refine mix_n rfl ?_
 go_wp2_with fail
 refine ⟨rfl,(Below.refl _ _).alloc (Nat.le_refl _) _,?_⟩
 refine mix_n rfl ?_
 go_wp2_with fail
 refine (or_any (cmpI day day2) (cmpI kind kind2) (cmpI id id2) W0.heap.size _ (by simp) (by simp) (by simp)).mono ?_
 rintro e w' ⟨rfl,hw⟩
 subst w'
 go_wp2_with fail
 refine ⟨rfl,Below.refl _ _,?_⟩
 repeat (refine mix_q rfl ?_;go_big_quiet_step (fail);refine wpQuiet_nil ?_)
 refine mix_nil ?_
 go_wp2
 go_ret
 exact ⟨rfl,hB0.alloc (by have:=hB0.size;omega) _⟩
end Go.Proofs.YtbleojodidbhiaaGreatDoor
