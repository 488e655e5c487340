/-  -/
import Derived.Test.YtbleojodidbhiaaGreatDoorBnA
import Derived.Test.YtbleojodidbhiaaGreatDoorBnD
namespace Go.Proofs.YtbleojodidbhiaaGreatDoor
open Go.RowKit
theorem below3a (w:World) (o o' o'':Obj):Below w.heap.size w (((w.alloc o).alloc o').alloc o''):=(((Below.refl _ _).alloc (Nat.le_refl _) o).alloc (by simp) o').alloc (by simp;omega) o''
theorem below_set5 {n g:Nat} {w W:World} (h:Below n w W) (hg:n≤g) (a b c d e:Value):Below n w (((((W.setCell ⟨g,0,none⟩ a).setCell ⟨g,1,none⟩ b).setCell ⟨g,2,none⟩ c).setCell ⟨g,3,none⟩ d).setCell ⟨g,4,none⟩ e):=
 ((((h.setCell hg a).setCell hg b).setCell hg c).setCell hg d).setCell hg e
set_option maxHeartbeats 2000000 in
theorem plus_any (a b:Fig) (w:World):Calls Tryz.prog 240 #[figV a,figV b] w fun r w'=>r = .returned (figV (a.plus b))∧Below w.heap.size w w':=by
 obtain ⟨a1,a2,a3,a4,a5⟩:=a
 obtain ⟨b1,b2,b3,b4,b5⟩:=b
 unfold figV Fig.plus
 simp only
 go_enter Tryz.func240,Tryz.ntmps240
 go_wp2
 refine bodyPost_ret (v:=.agg #[.int .i64 (wrap64 (a1 + b1)),.int .i64 (wrap64 (a2 + b2)),.int .i64 (wrap64 (a3 + b3)),.int .i64 (wrap64 (a4 + b4)),.int .i64 (wrap64 (a5 + b5))]) (by simp [results,Tryz.results240,go_sem]) rfl ⟨rfl,?_⟩
 exact below3a _ _ _ _
set_option maxHeartbeats 2000000 in
theorem minus_any (a b:Fig) (w:World):Calls Tryz.prog 210 #[figV a,figV b] w fun r w'=>r = .returned (figV (a.minus b))∧Below w.heap.size w w':=by
 obtain ⟨a1,a2,a3,a4,a5⟩:=a
 obtain ⟨b1,b2,b3,b4,b5⟩:=b
 unfold figV Fig.minus
 simp only
 go_enter Tryz.func210,Tryz.ntmps210
 go_wp2
 refine bodyPost_ret (v:=.agg #[.int .i64 (wrap64 (a1 - b1)),.int .i64 (wrap64 (a2 - b2)),.int .i64 (wrap64 (a3 - b3)),.int .i64 (wrap64 (a4 - b4)),.int .i64 (wrap64 (a5 - b5))]) (by simp [results,Tryz.results210,go_sem]) rfl ⟨rfl,below3a _ _ _ _⟩
def lineV (y:Lin):Value:=.agg #[.int .i64 y.id,.int .i64 y.val,.int .i64 y.short,.int .i64 y.late,.bool y.gain]
set_option maxHeartbeats 2000000 in
theorem figures_any (k:Int) (y:Lin) (w:World):Calls Tryz.prog 262 #[.int .i64 k,lineV y] w fun r w'=>r = .returned (figV (figOf k y))∧Below w.heap.size w w':=by
 obtain ⟨y1,y2,y3,y4,y5⟩:=y
 unfold figV figOf lineV
 simp only
 by_cases h1:k=1
 ·subst h1
  rw [if_pos (Or.inl rfl)]
  go_enter Tryz.func262,Tryz.ntmps262
  go_wp2
  refine bodyPost_ret (v:=.agg #[.int .i64 y2,.int .i64 0,.int .i64 0,.int .i64 0,.int .i64 y4]) (by simp [results,Tryz.results262,go_sem]) rfl ⟨rfl,?_⟩
  exact below3a _ _ _ _
 ·by_cases h2:k=2
  ·subst h2
   rw [if_pos (Or.inr rfl)]
   go_enter Tryz.func262,Tryz.ntmps262
   go_wp2
   refine bodyPost_ret (v:=.agg #[.int .i64 y2,.int .i64 0,.int .i64 0,.int .i64 0,.int .i64 y4]) (by simp [results,Tryz.results262,go_sem]) rfl ⟨rfl,?_⟩
   exact below3a _ _ _ _
  ·rw [if_neg (by omega)]
   by_cases h3:k=3
   ·subst h3
    rw [if_pos rfl]
    go_enter Tryz.func262,Tryz.ntmps262
    go_wp2
    refine bodyPost_ret (v:=.agg #[.int .i64 0,.int .i64 y2,.int .i64 0,.int .i64 0,.int .i64 y4]) (by simp [results,Tryz.results262,go_sem]) rfl ⟨rfl,?_⟩
    exact below3a _ _ _ _
   ·rw [if_neg h3]
    have e1:(k == 1)=false:=by simpa using h1
    have e2:(k == 2)=false:=by simpa using h2
    have e3:(k == 3)=false:=by simpa using h3
    cases y5 with
    | true=>
     rw [if_pos rfl]
     go_enter Tryz.func262,Tryz.ntmps262
     go_wp2
     refine bodyPost_ret (v:=.agg #[.int .i64 0,.int .i64 0,.int .i64 0,.int .i64 y2,.int .i64 y4]) (by simp [results,Tryz.results262,go_sem]) rfl ⟨rfl,?_⟩
     exact below3a _ _ _ _
    | false=>
     rw [if_neg (by simp)]
     go_enter Tryz.func262,Tryz.ntmps262
     go_wp2
     refine bodyPost_ret (v:=.agg #[.int .i64 0,.int .i64 0,.int .i64 y2,.int .i64 0,.int .i64 y4]) (by simp [results,Tryz.results262,go_sem]) rfl ⟨rfl,?_⟩
     exact below3a _ _ _ _
end Go.Proofs.YtbleojodidbhiaaGreatDoor
namespace Go.Proofs.YtbleojodidbhiaaGreatDoor
open Go.RowKit Go.Maps
def evZero:Ev:=⟨0,⟨#[]⟩,0,0,0,0,0⟩
noncomputable def fnd (l:List Ev) (id:Int):Ev:=l.foldl (fun x e=>if rtB e=true∧e.id=id then e else x) evZero
theorem fnd_snoc (a:List Ev) (x:Ev) (id:Int):fnd (a ++ [x]) id=if rtB x=true∧x.id=id then x else fnd a id:=by
 unfold fnd;rw [List.foldl_append];rfl
theorem fnd_is {l:List Ev} (hn:(l.map (·.id)).Nodup) {e:Ev} (he:e ∈ l) (hr:rtB e=true):fnd l e.id=e:=by
 rw [← List.reverse_reverse l] at hn he ⊢
 generalize l.reverse=r at hn he ⊢
 induction r with
 | nil=>simp at he
 | cons x r ih=>
  rw [List.reverse_cons] at hn he ⊢
  rw [fnd_snoc]
  rw [List.map_append,List.nodup_append] at hn
  rcases List.mem_append.1 he with h | h
  ·rw [if_neg (fun c=>hn.2.2 e.id (List.mem_map.2 ⟨e,h,rfl⟩) x.id (by simp) c.2.symm)]
   exact ih hn.1 h
  ·rw [List.mem_singleton] at h
   subst h
   rw [if_pos ⟨hr,rfl⟩]
theorem law_intM:Keyed Tryz.prog 3:=int_keyed Tryz.underlying3
theorem key_intM (i:Int) (h:(Lit.int .i64 i).wf=true):keyOf Tryz.prog 3 (.int .i64 i)=some (.int .i64 i):=keyOf_int_mk Tryz.underlying3 h
theorem zero_evM (w:World):(zeroValue 93).run Tryz.prog w = .ok (evV evZero) w:=by kernel_rfl
theorem run_make_hint {P:Program} {t k e:TypeId} (hu:P.underlying t=some (.map k e)) (n:Int) (w:World):(Instr.makeMap t (some (.int .i64 n))).run P w = .ok (.map (some w.heap.size)) (w.alloc (.map #[] 0)):=by
 simp [Instr.makeMap,run_underlying hu,asInt,asIntOf,Result.andThen]
structure FindAt (w:World) (bx mb n:Nat) (D:DataW Value) (l:List Ev):Prop where
 c:w.cell? ⟨bx,0,none⟩=some (.map (some mb))
 map:w.ownsMap Tryz.prog 3 heldE mb n D
 at_:∀ id:Int,D.atKey (.int .i64 id) (.held (evV evZero)) = .held (evV (fnd l id))
theorem FindAt.below {w w':World} {bx mb n:Nat} {D:DataW Value} {l:List Ev} (h:FindAt w bx mb n D l) (hb:Below w.heap.size w w'):FindAt w' bx mb n D l:=
 ⟨below_cell hb h.c,map_same h.map (hb.block _ h.map.lt),h.at_⟩
set_option maxHeartbeats 4000000 in
theorem found_any {w:World} {bx mb n:Nat} {D:DataW Value} {l:List Ev} (h:FindAt w bx mb n D l) (id:Int) (hi:(Lit.int .i64 id).wf=true) :
  Calls Tryz.prog 282 #[.int .i64 id,.pointer (some ⟨bx,0,none⟩)] w fun r w'=>r = .returned (evV (fnd l id))∧Below w.heap.size w w':=by
 obtain ⟨W1,hW1⟩:∃ W,W=w.alloc (.cells #[.int .i64 0,.string ⟨#[]⟩,.int .i64 0,.int .i64 0,.int .i64 0,.int .i64 0,.int .i64 0] 93):=⟨_,rfl⟩
 have hb1:Below w.heap.size w W1:=by rw [hW1];exact (Below.refl _ _).alloc (Nat.le_refl _) _
 obtain ⟨x,hx⟩:∃ x,x=fnd l id:=⟨_,rfl⟩
 have hlk:(Instr.lookup 346 (.map (some mb)) (.int .i64 id) false).run Tryz.prog W1 = .ok (evV x) W1:=by
  obtain ⟨v,ps,h1,h2⟩:=(h.below hb1).map.lookup law_intM Tryz.underlying346 (zero_evM W1) (zd:=.held (evV evZero)) (zp:=[]) rfl (key_intM id hi)
  have h3:=heldE_inv h2
  rw [h.at_ id,← hx] at h3
  rw [h1,← held_inj h3]
 have hc:=(h.below hb1).c
 rw [hW1] at hlk hc
 rw [← hx]
 clear hx h
 obtain ⟨x0,x1,x2,x3,x4,x5,x6⟩:=x
 unfold evV at hlk ⊢
 simp only at hlk ⊢
 have HB:Hid (∀ o:Obj,Below w.heap.size w (w.alloc o)):=fun o=>(Below.refl _ _).alloc (Nat.le_refl _) o
 clear hb1 hW1
 go_enter Tryz.func282,Tryz.ntmps282
 go_wp2
 refine bodyPost_ret (v:=.agg #[.int .i64 x0,.string x1,.int .i64 x2,.int .i64 x3,.int .i64 x4,.int .i64 x5,.int .i64 x6]) (by simp [results,Tryz.results282,go_sem]) rfl ⟨rfl,?_⟩
 exact HB.out _
set_option maxRecDepth 20000 in
set_option maxHeartbeats 4000000 in
theorem finder_any (l:List Ev) (ao:Option Addr) (cap:Nat) (w:World) (h:EvsC w ao l) (hw:∀ e ∈ l,EvW e) (hl:l.length≤10000) :
  Calls Tryz.prog 261 #[.slice ao l.length cap] w fun r w'=>∃ bx mb n D,r = .returned (.func (.func 282) #[] #[.pointer (some ⟨bx,0,none⟩)])∧FindAt w' bx mb n D l∧Below w.heap.size w w':=by
 have HL:Hid (EvsC w ao l):=h
 have HW:Hid (∀ e ∈ l,EvW e):=hw
 have hmm:=run_make_hint Tryz.underlying346
 obtain ⟨wm,hwm⟩:∃ W,W=(w.alloc (.map #[] 0)).alloc (.cells #[.map (some w.heap.size)] 346):=⟨_,rfl⟩
 have hmap:wm.ownsMap Tryz.prog 3 heldE w.heap.size 0 (.map []):=by
  rw [hwm]
  have:=World.ownsMap_made w Tryz.prog 3 heldE
  exact map_same this (by
   have:=(Below.refl (w.alloc (.map #[] 0)).heap.size (w.alloc (.map #[] 0))).alloc (Nat.le_refl _) (.cells #[.map (some w.heap.size)] 346)
   exact this.block _ (by simp))
 have hcm:wm.cell? ⟨w.heap.size + 1,0,none⟩=some (.map (some w.heap.size)):=by rw [hwm];simp
 have hbm:Below w.heap.size w wm:=by rw [hwm];exact ((Below.refl _ _).alloc (Nat.le_refl _) _).alloc (by simp) _
 have HM0:Hid (FindAt wm (w.heap.size + 1) w.heap.size 0 (.map []) []):=⟨hcm,hmap,fun id=>rfl⟩
 have HWM:Hid (wm=(w.alloc (.map #[] 0)).alloc (.cells #[.map (some w.heap.size)] 346)):=hwm
 have HBM:Hid (Below w.heap.size w wm):=hbm
 clear h hw hmap hcm hbm hwm
 go_enter Tryz.func261,Tryz.ntmps261
 go_wp2_with fail
 rw [← HWM.out]
 clear hmm
 go_loopw [11] (fun i wr=>∃ (k n:Nat) (D:DataW Value),k≤l.length∧n≤k∧i = .int .i64 k∧Hid (FindAt wr (w.heap.size + 1) w.heap.size n D (l.take k))∧Hid (Below w.heap.size w wr)) (fun i _=>l.length - (intOf i).toNat)
 case atStart=>exact ⟨0,0,_,Nat.zero_le _,Nat.le_refl _,rfl,HM0,HBM⟩
 case round=>
  obtain ⟨k,n,D,hk,hn,rfl,HF,HB⟩:=hrel
  by_cases hlt:k < l.length
  ·obtain ⟨g,o,hao,hg,hc⟩:=(show EvsC w ao l from HL.out) (by omega)
   subst hao
   obtain ⟨x,hx⟩:∃ x,x=l[k]:=⟨_,rfl⟩
   have hcw:∀ j,j < 7→wr.cell? ⟨g,o + k * 7 + j,none⟩=(evC x)[j]?:=fun j hj=>by rw [HB.out.cell (p:=⟨g,o + k * 7 + j,none⟩) hg,hc k hlt j hj,hx]
   have hxw:EvW x:=by rw [hx];exact HW.out _ (List.getElem_mem hlt)
   have HT:Hid (l.take (k + 1)=l.take k ++ [x]):=by show _=_;rw [List.take_succ_eq_append_getElem hlt,hx]
   obtain ⟨id,item,kind,qty,price,ofI,day⟩:=x
   have q0:=hcw 0 (by omega)
   have q1:=hcw 1 (by omega)
   have q2:=hcw 2 (by omega)
   have q3:=hcw 3 (by omega)
   have q4:=hcw 4 (by omega)
   have q5:=hcw 5 (by omega)
   have q6:=hcw 6 (by omega)
   simp only [evC,List.getElem?_cons_zero,List.getElem?_cons_succ,Nat.add_zero] at q0 q1 q2 q3 q4 q5 q6
   obtain ⟨W1,hW1⟩:∃ W,W=wr.alloc (.cells #[.int .i64 id,.string item,.int .i64 kind,.int .i64 qty,.int .i64 price,.int .i64 ofI,.int .i64 day] 93):=⟨_,rfl⟩
   have hb1:Below wr.heap.size wr W1:=by rw [hW1];exact (Below.refl _ _).alloc (Nat.le_refl _) _
   have hE1:EvAt W1 wr.heap.size ⟨id,item,kind,qty,price,ofI,day⟩:=by rw [hW1];constructor <;> simp
   have hs1:wr.heap.size < W1.heap.size:=by rw [hW1];simp
   have hr:=right_any ⟨id,item,kind,qty,price,ofI,day⟩ W1 hxw
   have hiw:=hxw.id
   unfold evV at hr
   simp only at hr hiw
   have HW1:Hid (W1=_):=hW1
   clear hcw hx hc hW1
   go_wp2_with fail
   rw [← HW1.out]
   refine hr.mono ?_
   rintro e w2 ⟨⟨b,rfl,hbb⟩,hb2⟩
   have hF2:=(HF.out.below hb1).below hb2
   have hE2:=hE1.below hb2
   have hB2:Below w.heap.size w w2:=(HB.out.trans (hb1.mono HB.out.size)).trans (hb2.mono (Nat.le_trans HB.out.size hb1.size))
   have hbt:rtB ⟨id,item,kind,qty,price,ofI,day⟩=b:=by
    have:=rtB_iff ⟨id,item,kind,qty,price,ofI,day⟩
    cases b with
    | true=>exact this.2 (hbb.1 rfl)
    | false=>
     rw [Bool.eq_false_iff]
     intro h
     exact absurd (hbb.2 (this.1 h)) (by simp)
   clear hr hbb q0 q1 q2 q3 q4 q5 q6 HW1 hE1
   cases b with
   | false=>
    have HF3:Hid (FindAt w2 (w.heap.size + 1) w.heap.size n D (l.take (k + 1))):=⟨hF2.c,hF2.map,fun i=>by rw [hF2.at_ i,HT.out,fnd_snoc,if_neg (fun c=>by rw [hbt] at c;exact absurd c.1 (by simp))]⟩
    go_wp2
    go_roundw
    case rel=>exact ⟨k + 1,n,D,by omega,by omega,by go_num,HF3,hB2⟩
    case measure=>simp [intOf];omega
   | true=>
    have r0:=hE2.c0
    have r1:=hE2.c1
    have r2:=hE2.c2
    have r3:=hE2.c3
    have r4:=hE2.c4
    have r5:=hE2.c5
    have r6:=hE2.c6
    simp only at r0 r1 r2 r3 r4 r5 r6
    have hcb:=hF2.c
    have HF2:Hid (FindAt w2 (w.heap.size + 1) w.heap.size n D (l.take k)):=hF2
    have hnm:n < maxLen:=by unfold maxLen;omega
    clear hF2 hE2
    go_wp2_with (first
     | (at_mapUpdate;refine wpList_mapUpdate_own _ rfl _ _ _ 346 rfl 3 93 law_intM Tryz.underlying346 heldE w.heap.size n D rfl HF2.out.map hnm _ _ (.int .i64 id) rfl rfl (key_intM id hiw) (.held (evV ⟨id,item,kind,qty,price,ofI,day⟩)) [] rfl ?_)
     | go_in)
    intro w3 m3 g3
    have isM:IsMap D:=(HF2.out.map.canon law_intM).imp fun es ⟨e,_⟩=>e
    have hb0:w.heap.size≤w2.heap.size:=hB2.size
    have HF3:Hid (FindAt w3 (w.heap.size + 1) w.heap.size (n + 1) (D.put (.int .i64 id) (.held (evV ⟨id,item,kind,qty,price,ofI,day⟩))) (l.take (k + 1))):=by
     refine ⟨?_,m3,fun i=>?_⟩
     ·have:=g3.block (w.heap.size + 1) (World.block_lt_of_cell? _ _ HF2.out.c) (by simp)
      exact (World.cell?_of_block (a:=⟨w.heap.size + 1,0,none⟩) this).trans HF2.out.c
     ·rw [HT.out,fnd_snoc]
      by_cases e:id=i
      ·subst e
       rw [if_pos ⟨hbt,rfl⟩,atKey_put_same isM (show WideAt.IsKeyLit (Lit.int .i64 id) from trivial)]
      ·rw [if_neg (fun c=>e c.2),atKey_put_other (fun c=>e (by injection c with _ c;exact c.symm)),HF2.out.at_ i]
    have HB3:Hid (Below w.heap.size w w3):=⟨g3.os.trans hB2.os,g3.tape.trans hB2.tape,g3.output.trans hB2.output,Nat.le_trans hB2.size g3.size,fun j hj=>(g3.block j (by omega) (by simp;omega)).trans (hB2.block j hj)⟩
    clear m3 g3
    go_wp2
    go_roundw
    case rel=>exact ⟨k + 1,n + 1,_,by omega,by omega,by go_num,HF3,HB3⟩
    case measure=>simp [intOf];omega
  ·obtain rfl:k=l.length:=by omega
   rw [List.take_length] at HF
   go_wp2
   go_ret
   exact ⟨_,_,_,_,rfl,HF.out,HB.out⟩
end Go.Proofs.YtbleojodidbhiaaGreatDoor
