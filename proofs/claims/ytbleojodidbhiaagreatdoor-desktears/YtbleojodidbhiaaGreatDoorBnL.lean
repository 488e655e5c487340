/-  -/
import Derived.Test.YtbleojodidbhiaaGreatDoorBnJ
import Derived.Test.YtbleojodidbhiaaGreatDoorBnD
import Derived.Test.YtbleojodidbhiaaGreatDoorBnEi
import Derived.Test.YtbleojodidbhiaaGreatDoorCoDo
import Derived.Test.YtbleojodidbhiaaGreatDoorBnA
import Derived.Maps.Ext
import Derived.Maps.RangeWalk
import Derived.StringKeys
namespace Go.Proofs.YtbleojodidbhiaaGreatDoor
open Go.RowKit
set_option maxHeartbeats 2000000 in
theorem inOrder_any (l:List Ev) (v:Value) (w:World) (h:EvsAt w v l) (hw:∀ e ∈ l,EvW e) (hl:l.length≤100000) :
  Calls Tryz.prog 211 #[v] w fun r w'=>∃ v':Value,r = .returned v'∧w'.ownsRow w.heap.size 93 7 v' (stl (l.filter rtB)).length ((stl (l.filter rtB)).flatMap evC)∧Below w.heap.size w w':=by
 obtain ⟨i0,hi,hz0,hz1,hz2⟩:=info_parts Tryz.infoEv
 have HL:Hid (EvsAt w v l):=h
 have HW:Hid (∀ e ∈ l,EvW e):=hw
 clear h hw
 rcases HL.out with ⟨hv,hn⟩ | ⟨g,o,cap,hv,hg,hc⟩
 ·subst hv hn
  have hsr:stl []=[]:=List.length_eq_zero_iff.1 (by rw [stl_len];rfl)
  have HSR:Hid (stl ([]:List Ev)=[]):=hsr
  clear hsr
  have hcs:=sortS_any (B:=w.heap.size) (l:=[]) (World.ownsRow_nil w _ _ _) (by simp)
  go_enter Tryz.func211,Tryz.ntmps211
  go_wp2
  refine wp_loop_rounds 1 ?_
  rw [rounds_succ]
  go_wp2_with fail
  refine hcs.mono ?_
  rintro e w1 ⟨rfl,ho,hgr⟩
  go_wp2
  go_ret
  refine ⟨_,rfl,?_,⟨hgr.os,hgr.tape,hgr.output,hgr.size,fun k hk=>hgr.block k hk (by simp [Value.ownBlock])⟩⟩
  rw [List.filter_nil]
  exact ho
 ·subst hv
  have HC:Hid _:=hc
  clear hc
  go_enter Tryz.func211,Tryz.ntmps211
  go_wp2
  go_loopw [3,8] (fun u i wr=>∃ k:Nat,k≤l.length∧i = .int .i64 k∧Hid (wr.ownsRow w.heap.size 93 7 u ((l.take k).filter rtB).length (((l.take k).filter rtB).flatMap evC))∧Below w.heap.size w wr) (fun _ i _=>l.length - (intOf i).toNat)
  case atStart=>exact ⟨0,Nat.zero_le _,rfl,World.ownsRow_nil _ _ _ _,Below.refl _ _⟩
  case round=>
   obtain ⟨k,hk,rfl,HO,hb⟩:=hrel
   by_cases hlt:k < l.length
   ·obtain ⟨x,hx⟩:∃ x,x=l[k]:=⟨_,rfl⟩
    have hcw:∀ j,j < 7→wr.cell? ⟨g,o + k * 7 + j,none⟩=(evC x)[j]?:=fun j hj=>by
     rw [hb.cell (p:=⟨g,o + k * 7 + j,none⟩) hg,HC.out k j hlt hj,hx]
    have hxw:EvW x:=by rw [hx];exact HW.out _ (List.getElem_mem hlt)
    have hflen:((l.take k).filter rtB).length≤100000:=Nat.le_trans (List.length_filter_le ..) (by rw [List.length_take];omega)
    have HT:Hid (l.take (k + 1)=l.take k ++ [x]):=by show _=_;rw [List.take_succ_eq_append_getElem hlt,hx]
    obtain ⟨id,item,kind,qty,price,ofI,day⟩:=x
    have q0:=hcw 0 (by omega)
    have q1:=hcw 1 (by omega)
    have q2:=hcw 2 (by omega)
    have q3:=hcw 3 (by omega)
    have q4:=hcw 4 (by omega)
    have q5:=hcw 5 (by omega)
    have q6:=hcw 6 (by omega)
    simp only [evC,List.getElem?_cons_zero,List.getElem?_cons_succ,Nat.add_zero] at q0 q1 q2 q3 q4 q5 q6
    have hr:=fun W=>right_any ⟨id,item,kind,qty,price,ofI,day⟩ W hxw
    unfold evV at hr
    simp only at hr
    clear hcw hx
    go_wp2_with fail
    refine (hr _).mono ?_
    obtain ⟨W1,hW1⟩:∃ W,W=wr.alloc (.cells #[.int .i64 id,.string item,.int .i64 kind,.int .i64 qty,.int .i64 price,.int .i64 ofI,.int .i64 day] 93):=⟨_,rfl⟩
    rw [← hW1]
    have hB1:Below wr.heap.size wr W1:=by rw [hW1];exact (Below.refl _ _).alloc (Nat.le_refl _) _
    have hE1:EvAt W1 wr.heap.size ⟨id,item,kind,qty,price,ofI,day⟩:=by rw [hW1];constructor <;> simp
    clear hW1
    rintro e w2 ⟨⟨b,rfl,hbb⟩,hb2⟩
    have hE2:=hE1.below hb2
    have hB2:Below wr.heap.size wr w2:=hB1.trans (hb2.mono hB1.size)
    have hBw:Below w.heap.size w w2:=hb.trans (hB2.mono hb.size)
    have HO2:Hid (w2.ownsRow w.heap.size 93 7 u3 ((l.take k).filter rtB).length (((l.take k).filter rtB).flatMap evC)):=own_below HO.out hB2 (Nat.le_refl _)
    have c0:=hE2.c0
    have c1:=hE2.c1
    have c2:=hE2.c2
    have c3:=hE2.c3
    have c4:=hE2.c4
    have c5:=hE2.c5
    have c6:=hE2.c6
    simp only at c0 c1 c2 c3 c4 c5 c6
    have hbt:rtB ⟨id,item,kind,qty,price,ofI,day⟩=b:=by
     have:=rtB_iff ⟨id,item,kind,qty,price,ofI,day⟩
     cases b with
     | true=>exact this.2 (hbb.1 rfl)
     | false=>exact Bool.eq_false_iff.2 fun e=>by have:=hbb.2 (this.1 e);cases this
    have HBT:Hid (rtB ⟨id,item,kind,qty,price,ofI,day⟩=b):=hbt
    clear hbt hbb q0 q1 q2 q3 q4 q5 q6 hr hb2 hE1 hE2 hB1
    cases b with
    | true=>
     go_wp2_with (first
      | (at_builtin;refine wpList_append_own _ rfl _ _ 53 rfl w.heap.size 93 i0 evZ 7 64 Tryz.underlying53 hi hz0 hz1 hz2 rfl (by decide) _ _ _ rfl (HO2.out.alloc _) ⟨w2.heap.size,0,none⟩ 1 1 (evC ⟨id,item,kind,qty,price,ofI,day⟩) rfl rfl ?d1 ?d2 ?d3 ?d4 ?d5 ?_)
      | go_in)
     case d1=>exact cells_of_list rfl
     case d2=>exact evC_one _
     case d3=>unfold maxLen;omega
     case d4=>omega
     case d5=>have:=hBw.size;simp;omega
     ·intro v' w3 hown3 hgr _
      go_wp2
      go_roundw
      case rel=>
       refine ⟨k + 1,by omega,by go_num,?_,?_⟩
       ·show World.ownsRow _ _ _ _ _ _ _
        rw [HT.out,List.filter_append]
        simp only [List.filter_cons,HBT.out,if_true,List.filter_nil,List.length_append,List.length_cons,List.length_nil,Nat.zero_add,List.flatMap_append,List.flatMap_cons,List.flatMap_nil,List.append_nil]
        exact hown3
       ·exact (hBw.alloc (by have:=hBw.size;omega) _).grown hgr (by have:=hBw.size;simp;omega) (fun j hj=>(HO2.out.lt j hj).1)
      case measure=>simp [intOf];omega
    | false=>
     go_wp2
     go_roundw
     case rel=>
      refine ⟨k + 1,by omega,by go_num,?_,hBw⟩
      show World.ownsRow _ _ _ _ _ _ _
      rw [HT.out,List.filter_append]
      simp only [List.filter_cons,HBT.out,Bool.false_eq_true,if_false,List.filter_nil,List.append_nil]
      exact HO2.out
     case measure=>simp [intOf];omega
   ·obtain rfl:k=l.length:=by omega
    have ho:=HO.out
    rw [List.take_length] at ho
    have hcs:=sortS_any ho (by have:=List.length_filter_le rtB l;omega)
    have hrow:∀ j,u3.ownBlock=some j→w.heap.size≤j:=fun j hj=>(ho.lt j hj).1
    clear ho HO
    go_wp2_with fail
    refine hcs.mono ?_
    rintro e w3 ⟨rfl,ho3,hg3⟩
    go_wp2
    go_ret
    exact ⟨_,rfl,ho3,hb.grown hg3 hb.size hrow⟩
end Go.Proofs.YtbleojodidbhiaaGreatDoor
namespace Go.Proofs.YtbleojodidbhiaaGreatDoor
open Go.RowKit Go.Maps
def stkV (sv:Value) (p:Int):Value:=.agg #[sv,.int .i64 p]
def stkZ:Value:=stkV (.slice none 0 0) 0
theorem stkV_inj {a b:Value} {p q:Int} (h:stkV a p=stkV b q):a=b∧p=q:=by
 unfold stkV at h
 simp only [Value.agg.injEq] at h
 have h':=congrArg Array.toList h
 simp at h'
 exact h'
theorem zero_stk (w:World):(zeroValue 268).run Tryz.prog w = .ok stkZ w:=by kernel_rfl
theorem EvsAt.same {w w':World} {v:Value} {l:List Ev} (h:EvsAt w v l) (hs:w.heap.size≤w'.heap.size) (e:∀ k,v.ownBlock=some k→w'.heap[k]?=w.heap[k]?):EvsAt w' v l:=by
 rcases h with h | ⟨g,o,cap,rfl,hg,hc⟩
 ·exact Or.inl h
 ·exact Or.inr ⟨g,o,cap,rfl,by omega,fun k j hk hj=>(World.cell?_of_block (a:=⟨g,o + k * 7 + j,none⟩) (e g rfl)).trans (hc k j hk hj)⟩
theorem EvsAt.lt {w:World} {v:Value} {l:List Ev} (h:EvsAt w v l) {k:Nat} (hk:v.ownBlock=some k):k < w.heap.size:=by
 rcases h with ⟨rfl,_⟩ | ⟨g,o,cap,rfl,hg,_⟩
 ·cases hk
 ·have:g=k:=by simpa [Value.ownBlock] using hk
  omega
structure RunSt (B:Nat) (W:World) (mb n:Nat) (D:DataW Value) (V:ByteArray→Value) (M:Stks) (u:Value) (ls:List Lin) (ev:Value) (fs:List Ev):Prop where
 map:W.ownsMap Tryz.prog 9 heldE mb n D
 at_:∀ x,D.atKey (keyB x) (.held stkZ) = .held (stkV (V x) (M x).price)
 lay:∀ x,LayAt W (V x) (M x).ys
 ge:∀ x k,(V x).ownBlock=some k→B≤k∧k ≠ mb∧u.ownBlock ≠ some k∧ev.ownBlock ≠ some k
 ne:∀ x y,x ≠ y→∀ k,(V x).ownBlock=some k→(V y).ownBlock ≠ some k
 own:W.ownsRow B 180 5 u ls.length (ls.flatMap linC)
 umb:u.ownBlock ≠ some mb
 evs:EvsAt W ev fs
 emb:ev.ownBlock ≠ some mb
 uev:∀ k,u.ownBlock=some k→ev.ownBlock ≠ some k
theorem RunSt.below {B:Nat} {W W':World} {mb n:Nat} {D:DataW Value} {V:ByteArray→Value} {M:Stks} {u:Value} {ls:List Lin} {ev:Value} {fs:List Ev} (h:RunSt B W mb n D V M u ls ev fs) (hb:Below W.heap.size W W'):RunSt B W' mb n D V M u ls ev fs:=
 ⟨map_same h.map (hb.block _ h.map.lt),h.at_,fun x=>(h.lay x).below hb,h.ge,h.ne,own_below h.own hb (Nat.le_refl _),h.umb,h.evs.below hb,h.emb,h.uev⟩
theorem RunSt.step {B:Nat} {W w3 w4 w5:World} {mb n b2:Nat} {D:DataW Value} {V:ByteArray→Value} {M:Stks} {u u':Value} {ls:List Lin} {ev:Value} {fs:List Ev} {x:ByteArray} {sv':Value} {s':Stk} {y:Lin}
  (h:RunSt B W mb n D V M u ls ev fs) (hx:∀ z,(V z).ownBlock ≠ some b2) (he:ev.ownBlock ≠ some b2) (hBW:B≤W.heap.size)
  (T:Turned W w3 b2 (V x)) (F:Fresh W (V x) sv') (L:LayAt w3 sv' s'.ys)
  (g4:w3.grownBy w4 u.ownBlock) (o4:w4.ownsRow B 180 5 u' (ls ++ [y]).length ((ls ++ [y]).flatMap linC)) (f4:Fresh w3 u u')
  (m5:w5.ownsMap Tryz.prog 9 heldE mb (n + 1) (D.put (keyB x) (.held (stkV sv' s'.price)))) (g5:w4.grownBy w5 (some mb)) :
  RunSt B w5 mb (n + 1) (D.put (keyB x) (.held (stkV sv' s'.price))) (fun z=>if z=x then sv' else V z) (upd M x s') u' (ls ++ [y]) ev fs
   ∧ ∀ c,c≤B→c≤W.heap.size→c≤b2→c≤mb→Below c W w5:=by
 have hsz3:=T.size
 have hsz4:=g4.size
 have hsz5:=g5.size
 have isM:IsMap D:=(h.map.canon law_strT).imp fun es ⟨e,_⟩=>e
 have svlt:∀ k,sv'.ownBlock=some k→k < w3.heap.size:=fun k hk=>L.lt hk
 have vlt:∀ z k,(V z).ownBlock=some k→k < W.heap.size:=fun z k hk=>(h.lay z).lt hk
 have ult:∀ k,u.ownBlock=some k→k < W.heap.size:=fun k hk=>(h.own.lt k hk).2
 have u'ne:∀ k,k < w3.heap.size→u.ownBlock ≠ some k→u'.ownBlock ≠ some k:=fun k hk hn e=>by
  rcases f4 k e with a | a
  ·exact hn a
  ·omega
 have svge:∀ k,sv'.ownBlock=some k→B≤k∧k ≠ mb∧u.ownBlock ≠ some k∧ev.ownBlock ≠ some k:=fun k hk=>by
  rcases F k hk with a | a
  ·exact h.ge x k a
  ·refine ⟨by omega,by have:=h.map.lt;omega,fun e=>by have:=ult k e;omega,fun e=>by have:=h.evs.lt e;omega⟩
 have svne:∀ z k,z ≠ x→(V z).ownBlock=some k→sv'.ownBlock ≠ some k:=fun z k hz hk e=>by
  rcases F k e with a | a
  ·exact h.ne z x hz k hk a
  ·have:=vlt z k hk;omega
 have keep:∀ k,k < W.heap.size→k ≠ b2→(V x).ownBlock ≠ some k→u.ownBlock ≠ some k→k ≠ mb→w5.heap[k]?=W.heap[k]?:=fun k h1 h2 h3 h4 h5=>by
  rw [g5.block k (by omega) (by simp [h5]),g4.block k (by omega) (fun e=>h4 e.symm),T.block k h1 h2 h3]
 have keep3:∀ k,k < w3.heap.size→u.ownBlock ≠ some k→k ≠ mb→w5.heap[k]?=w3.heap[k]?:=fun k h1 h4 h5=>by
  rw [g5.block k (by omega) (by simp [h5]),g4.block k (by omega) (fun e=>h4 e.symm)]
 refine ⟨?_,fun c c1 c2 c3 c4=>⟨g5.os.trans (g4.os.trans T.os),g5.tape.trans (g4.tape.trans T.tape),g5.output.trans (g4.output.trans T.output),by omega,fun k hk=>keep k (by omega) (by omega) (fun e=>by have:=(h.ge x k e).1;omega) (fun e=>by have:=(h.own.lt k e).1;omega) (by omega)⟩⟩
 refine ⟨m5,fun z=>?_,fun z=>?_,fun z k hk=>?_,fun z z' hz k hk=>?_,?_,?_,?_,h.emb,fun k hk=>?_⟩
 ·by_cases e:z=x
  ·subst e
   rw [atKey_put_same isM (keyB_key _),upd_same,if_pos rfl]
  ·rw [atKey_put_other (fun a=>e (keyB_inj a)),upd_other _ _ _ _ e,if_neg e]
   exact h.at_ z
 ·by_cases e:z=x
  ·subst e
   simp only [if_true,upd_same]
   exact L.kept fun k hk=>keep3 k (svlt k hk) (svge k hk).2.2.1 (svge k hk).2.1
  ·simp only [if_neg e]
   rw [upd_other _ _ _ _ e]
   exact (h.lay z).kept fun k hk=>keep k (vlt z k hk) (fun a=>hx z (by rw [hk,a])) (h.ne z x e k hk) (h.ge z k hk).2.2.1 (h.ge z k hk).2.1
 ·by_cases e:z=x
  ·simp only [if_pos e] at hk
   obtain ⟨a1,a2,a3,a4⟩:=svge k hk
   exact ⟨a1,a2,u'ne k (svlt k hk) a3,a4⟩
  ·simp only [if_neg e] at hk
   obtain ⟨a1,a2,a3,a4⟩:=h.ge z k hk
   exact ⟨a1,a2,u'ne k (by have:=vlt z k hk;omega) a3,a4⟩
 ·by_cases e:z=x
  ·simp only [if_pos e] at hk
   have e':¬ z'=x:=fun a=>hz (e.trans a.symm)
   simp only [if_neg e']
   exact fun a=>svne z' k e' a hk
  ·simp only [if_neg e] at hk
   by_cases e':z'=x
   ·simp only [if_pos e']
    exact svne z k e hk
   ·simp only [if_neg e']
    exact h.ne z z' hz k hk
 ·exact row_same o4 fun k hk=>g5.block k (o4.lt k hk).2 (by
   intro a
   have a:=Option.some.inj a
   subst a
   exact u'ne k (by have:=h.map.lt;omega) h.umb hk)
 ·exact u'ne mb (by have:=h.map.lt;omega) h.umb
 ·refine h.evs.same (by omega) fun k hk=>?_
  exact keep k (h.evs.lt hk) (fun a=>he (by rw [hk,a])) (fun a=>(h.ge x k a).2.2.2 hk) (fun a=>h.uev k a hk) (fun a=>h.emb (by rw [hk,a]))
 ·rcases f4 k hk with a | a
  ·exact h.uev k a
  ·exact fun e=>by have:=h.evs.lt e;omega
structure Lays (D2:DataW Value) (left:Lit→Bool) (V:ByteArray→Value) (M:Stks):Prop where
 no:∀ x,((M x).ys=[]∨left (keyB x)=true)→has D2 (keyB x)=false
 yes:∀ x,(M x).ys ≠ []→left (keyB x)=false→∀ z,D2.atKey (keyB x) z = .held (V x)
theorem Lays.start {B:Nat} {W:World} {mb n:Nat} {D:DataW Value} {V:ByteArray→Value} {M:Stks} {u:Value} {ls:List Lin} {ev:Value} {fs:List Ev} (h:RunSt B W mb n D V M u ls ev fs):Lays (.map []) (has D) V M:=by
 refine ⟨fun x _=>rfl,fun x hx hl=>absurd ?_ hx⟩
 have e:=h.at_ x
 rw [atKey_of_not_has hl] at e
 have e1:=(stkV_inj (held_inj e)).1
 have l:=h.lay x
 rw [← e1] at l
 rcases l with ⟨_,y⟩ | ⟨_,_,_,_,y,_⟩
 ·exact y
 ·cases y
theorem Lays.put {D2:DataW Value} {left:Lit→Bool} {V:ByteArray→Value} {M:Stks} (h:Lays D2 left V M) (hD:IsMap D2) (x:ByteArray) (hx:(M x).ys ≠ []):Lays (D2.put (keyB x) (.held (V x))) (fun z=>left z && !z.sameKey (keyB x)) V M:=by
 refine ⟨fun y hy=>?_,fun y hy hl z=>?_⟩
 ·have hne:keyB y ≠ keyB x:=fun e=>by
   have e':=keyB_inj e
   subst e'
   rcases hy with a | a
   ·exact hx a
   ·simp only [Bool.and_eq_true,Bool.not_eq_true'] at a
    rw [WideAt.sameKey_self (keyB_key _)] at a
    exact absurd a.2 (by simp)
  rw [has_put_other hne]
  refine h.no y (hy.imp id fun a=>?_)
  simp only [Bool.and_eq_true] at a
  exact a.1
 ·by_cases e:y=x
  ·subst e
   exact atKey_put_same hD (keyB_key _) _ _
  ·have hne:keyB y ≠ keyB x:=fun a=>e (keyB_inj a)
   rw [atKey_put_other hne]
   refine h.yes y hy ?_ z
   simp only [sameKey_ne hne,Bool.not_false,Bool.and_true] at hl
   exact hl
theorem Lays.skip {D2:DataW Value} {left:Lit→Bool} {V:ByteArray→Value} {M:Stks} (h:Lays D2 left V M) (x:ByteArray) (hx:(M x).ys=[]):Lays D2 (fun z=>left z && !z.sameKey (keyB x)) V M:=by
 refine ⟨fun y hy=>h.no y (hy.imp id fun a=>?_),fun y hy hl z=>?_⟩
 ·simp only [Bool.and_eq_true] at a
  exact a.1
 ·have e:y ≠ x:=fun a=>hy (by rw [a];exact hx)
  have hne:keyB y ≠ keyB x:=fun a=>e (keyB_inj a)
  refine h.yes y hy ?_ z
  simp only [sameKey_ne hne,Bool.not_false,Bool.and_true] at hl
  exact hl
structure RunRes (B:Nat) (W:World) (mb n:Nat) (D:DataW Value) (V:ByteArray→Value) (M:Stks) (u:Value) (ls:List Lin):Prop where
 map:W.ownsMap Tryz.prog 9 heldE mb n D
 no:∀ x,(M x).ys=[]→has D (keyB x)=false
 yes:∀ x,(M x).ys ≠ []→∀ z,D.atKey (keyB x) z = .held (V x)
 lay:∀ x,LayAt W (V x) (M x).ys
 own:W.ownsRow B 180 5 u ls.length (ls.flatMap linC)
theorem RunRes.below {B:Nat} {W W':World} {mb n:Nat} {D:DataW Value} {V:ByteArray→Value} {M:Stks} {u:Value} {ls:List Lin} (h:RunRes B W mb n D V M u ls) (hb:Below W.heap.size W W'):RunRes B W' mb n D V M u ls:=
 ⟨map_same h.map (hb.block _ h.map.lt),h.no,h.yes,fun x=>(h.lay x).below hb,own_below h.own hb (Nat.le_refl _)⟩
def ResAt (B:Nat) (W:World) (rv:Value) (M:Stks) (ls:List Lin):Prop:=∃ u mb n D V,rv = .agg #[u,.map (some mb)]∧B≤mb∧(∀ x k,(V x).ownBlock=some k→B≤k)∧RunRes B W mb n D V M u ls
theorem ResAt.below {B:Nat} {W W':World} {rv:Value} {M:Stks} {ls:List Lin} (h:ResAt B W rv M ls) (hb:Below W.heap.size W W'):ResAt B W' rv M ls:=by
 obtain ⟨u,mb,n,D,V,h1,h2,h3,h4⟩:=h
 exact ⟨u,mb,n,D,V,h1,h2,h3,h4.below hb⟩
end Go.Proofs.YtbleojodidbhiaaGreatDoor
