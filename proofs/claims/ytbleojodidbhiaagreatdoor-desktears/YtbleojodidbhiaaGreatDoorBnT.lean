/-  -/
import Derived.Test.YtbleojodidbhiaaGreatDoorBnPm
import Derived.Test.YtbleojodidbhiaaGreatDoorBnQ
import Derived.Test.YtbleojodidbhiaaGreatDoorBnS
import Derived.Test.YtbleojodidbhiaaGreatDoorBnP
import Derived.Laws.StructEq
namespace Go.Proofs.YtbleojodidbhiaaGreatDoor
open Go.RowKit Go.Maps
structure PerAt (w:World) (B pp:Nat) (cv:Value) (cs:List Cl):Prop where
 c0:w.cell? ⟨pp,3,none⟩=some cv
 f0:w.frozen? ⟨pp,3,none⟩=false
 own:w.ownsRow B 170 7 cv cs.length (cs.flatMap clC)
 ne:cv.ownBlock ≠ some pp
 ge:B≤pp
theorem PerAt.lt {w:World} {B pp:Nat} {cv:Value} {cs:List Cl} (h:PerAt w B pp cv cs):pp < w.heap.size:=World.block_lt_of_cell? _ _ h.c0
theorem PerAt.below {w w':World} {B pp:Nat} {cv:Value} {cs:List Cl} (h:PerAt w B pp cv cs) (hb:Below w.heap.size w w'):PerAt w' B pp cv cs:=
 ⟨below_cell hb h.c0,(hb.frozen (p:=⟨pp,3,none⟩) h.lt).trans h.f0,own_below h.own hb (Nat.le_refl _),h.ne,h.ge⟩
theorem PerAt.turned {w w':World} {B pp pb:Nat} {cv sv:Value} {cs:List Cl} (h:PerAt w B pp cv cs) (t:Turned w w' pb sv) (h1:pp ≠ pb) (h2:sv.ownBlock ≠ some pp) (h3:cv.ownBlock ≠ some pb) (h4:∀ g,cv.ownBlock=some g→sv.ownBlock ≠ some g):PerAt w' B pp cv cs:=by
 have e:=t.block pp h.lt h1 h2
 exact ⟨(World.cell?_of_block (a:=⟨pp,3,none⟩) e).trans h.c0,(World.frozen?_of_block (a:=⟨pp,3,none⟩) e).trans h.f0,row_same h.own fun k hk=>t.block k ((h.own.lt k hk).2) (fun x=>h3 (x ▸ hk)) (h4 k hk),h.ne,h.ge⟩
def cov (cs:List Cl) (m:Int):Bool:=match cs.getLast? with
 | none=>false
 | some c=>decide (m≤c.month)
theorem cov_snoc (a:List Cl) (c:Cl) (m:Int):cov (a ++ [c]) m=decide (m≤c.month):=by unfold cov;simp
theorem drew_same (w:World) (j:Nat):Below w.heap.size w (w.drewN j):=⟨rfl,rfl,rfl,Nat.le_refl _,fun _ _=>rfl⟩
set_option maxHeartbeats 4000000 in
theorem covers_any {w:World} {B pp:Nat} {cv:Value} {cs:List Cl} (h:PerAt w B pp cv cs) (hl:cs.length≤1000) (m:Int) :
  Calls Tryz.prog 166 #[.pointer (some ⟨pp,3,none⟩),.int .i64 m] w fun r w'=>r = .returned (.bool (cov cs m))∧∃ j,w'=w.drewN j:=by
 rcases List.eq_nil_or_concat cs with hcs | ⟨a,c,hcs⟩
 ·subst hcs
  obtain ⟨ad,cap,hcv⟩:=own_lenN h.own
  have q0:∀ j,(w.drewN j).cell? ⟨pp,3,none⟩=some (.slice ad 0 cap):=fun j=>by have e:cv = .slice ad 0 cap:=hcv;rw [← e];exact h.c0
  have mixed:=csP.mixed
  clear h
  go_enter Tryz.func166,Tryz.ntmps166
  go_wp2_with fail
  go_quiet (fail)
  go_wp2
  go_ret
  exact ⟨rfl,_,rfl⟩
 ·rw [List.concat_eq_append] at hcs
  subst hcs
  rw [cov_snoc]
  rcases own_form h.own with ⟨_,z2,_⟩ | ⟨g,cap,hcv,_⟩
  ·rw [List.length_append] at z2;exact absurd z2 (by simp)
  ·subst hcv
   have hm:=(own_cell clC_len h.own a.length 0 (by simp) (by decide)).1
   simp only [Nat.add_zero,List.getElem_append_right (Nat.le_refl _),Nat.sub_self,List.getElem_cons_zero,clC,List.getElem?_cons_zero] at hm
   have hc0:=h.c0
   simp only [List.length_append,List.length_cons,List.length_nil,Nat.zero_add] at hc0 hl
   have q0:∀ j,(w.drewN j).cell? ⟨pp,3,none⟩=some (.slice (some ⟨g,0,none⟩) (a.length + 1) cap):=fun j=>hc0
   have q1:∀ j,(w.drewN j).cell? ⟨g,a.length * 7,none⟩=some (.int .i64 c.month):=fun j=>hm
   have mixed:=csP.mixed
   have hpos:(0:Int) < (a.length:Int) + 1:=by omega
   clear h hm hc0
   by_cases hc:m≤c.month
   ·rw [decide_eq_true hc]
    go_enter Tryz.func166,Tryz.ntmps166
    go_wp2_with fail
    go_quiet (fail)
    go_wp2
    go_ret
    exact ⟨rfl,_,rfl⟩
   ·rw [decide_eq_false hc]
    go_enter Tryz.func166,Tryz.ntmps166
    go_wp2_with fail
    go_quiet (fail)
    go_wp2
    go_ret
    refine ⟨?_,_,rfl⟩
    simp [hc]
theorem orEmpty_any (a:Addr) (w:World):Calls Tryz.prog 167 #[.pointer (some a)] w fun r w'=>r = .returned (.pointer (some a))∧w'=w:=by
 go_enter Tryz.func167,Tryz.ntmps167
 go_wp2
 go_ret
 exact ⟨rfl,rfl⟩
theorem now_ok {b:Bk} (h:Inv b):((srt (asOf b b.n)).map (·.id)).Nodup∧(∀ e ∈ srt (asOf b b.n),EvW e)∧(srt (asOf b b.n)).length≤10000:=by
 refine ⟨now_nodup h,fun e he=>(now_mem h e he).2.1,?_⟩
 rw [srt_len]
 unfold asOf
 rw [List.length_map]
 have h1:=List.length_filter_le (isAt b.n) b.vs
 have h2:=h.full
 omega
set_option maxRecDepth 20000 in
set_option maxHeartbeats 8000000 in
theorem unposted_any {w:World} {B pp Bb pb:Nat} {cv sv:Value} {cs:List Cl} {b:Bk} (hp:PerAt w B pp cv cs) (hbk:BookAt w Bb pb sv b) (hi:Inv b) (ht:LenTab w) (hl:cs.length≤1000) (m:Int) :
  Calls Tryz.prog 168 #[.pointer (some ⟨pp,3,none⟩),.pointer (some ⟨pb,0,none⟩),.int .i64 m] w fun r w'=>r = .returned (figV (unp (untl (srt (asOf b b.n)) m) cs))∧Below w.heap.size w w':=by
 obtain ⟨W0,hW0⟩:∃ W,W=w.alloc (.cells #[.int .i64 0,.int .i64 0,.int .i64 0,.int .i64 0,.int .i64 0] 151):=⟨_,rfl⟩
 have hb0:Below w.heap.size w W0:=by rw [hW0];exact (Below.refl _ _).alloc (Nat.le_refl _) _
 have hs0:w.heap.size < W0.heap.size:=by rw [hW0];simp
 have hR0:FigAt W0 w.heap.size fig0:=by rw [hW0];exact fig_new w
 have has:=as_any (hbk.below hb0) (by have:=hi.full;omega) (-1)
 rw [show tOf b (-1)=b.n from if_pos (by decide)] at has
 obtain ⟨hnd,hew,hln⟩:=now_ok hi
 obtain ⟨es,hes⟩:∃ es,es=srt (asOf b b.n):=⟨_,rfl⟩
 rw [← hes] at has hnd hew hln
 rw [← hes]
 obtain ⟨U,hU⟩:∃ U,U=untl es m:=⟨_,rfl⟩
 rw [← hU]
 obtain ⟨X,hX⟩:∃ X,X=unp U cs:=⟨_,rfl⟩
 rw [← hX]
 have HX:Hid (X=unp U cs):=hX
 have HU:Hid (U=untl es m):=hU
 have HES:Hid ((es.map (·.id)).Nodup∧(∀ e ∈ es,EvW e)):=⟨hnd,hew⟩
 have HP:Hid (PerAt w B pp cv cs):=hp
 have HT:Hid (LenTab w):=ht
 have HW0:Hid (W0=_):=hW0
 obtain ⟨X1,X2,X3,X4,X5⟩:=X
 clear hes hU hX hnd hew hbk hi hp ht hW0
 go_enter Tryz.func168,Tryz.ntmps168
 go_wp2_with fail
 rw [← HW0.out]
 refine has.mono ?_
 rintro r w1 ⟨v,rfl,hown1,hb1⟩
 have hun:=until_any es v m w1 (EvsAt.of_own hown1) HES.out.2 hln HES.out.1 ((HT.out.below hb0).below hb1)
 rw [← HU.out] at hun
 obtain ⟨av,capv,hv⟩:=own_lenN hown1
 subst hv
 have hR1:=hR0.below hb1
 clear has hown1 HW0 hR0
 go_wp2_with fail
 refine hun.mono ?_
 rintro r w2 ⟨rfl,hb2⟩
 have hR2:=hR1.below hb2
 have hB2:Below w.heap.size w w2:=(hb0.trans (hb1.mono hb0.size)).trans (hb2.mono (Nat.le_trans hb0.size hb1.size))
 have hs2:w.heap.size < w2.heap.size:=Nat.lt_of_lt_of_le hs0 (Nat.le_trans hb1.size hb2.size)
 clear hun hR1 HU
 obtain ⟨u1,u2,u3,u4,u5⟩:=U
 unfold figV
 simp only
 obtain ⟨W3,hW3⟩:∃ W,W=w2.alloc (.cells #[.int .i64 u1,.int .i64 u2,.int .i64 u3,.int .i64 u4,.int .i64 u5] 151):=⟨_,rfl⟩
 have hb3:Below w2.heap.size w2 W3:=by rw [hW3];exact (Below.refl _ _).alloc (Nat.le_refl _) _
 have HF3:Hid (FigAt W3 w2.heap.size ⟨u1,u2,u3,u4,u5⟩):=by rw [hW3];constructor <;> simp
 have HR3:Hid (FigAt W3 w.heap.size fig0):=hR2.below hb3
 have hB3:Below w.heap.size w W3:=hB2.trans (hb3.mono hB2.size)
 have HP3:Hid (PerAt W3 B pp cv cs):=HP.out.below hB3
 have hs3:w2.heap.size < W3.heap.size:=by rw [hW3];simp
 have hpl:pp < w.heap.size:=HP.out.lt
 obtain ⟨ad,cap,hcv⟩:=own_lenN HP3.out.own
 have hpc:=HP3.out.c0
 have HPL:Hid (∀ g,cv.ownBlock=some g→g < w.heap.size):=fun g hg=>(HP.out.own.lt g hg).2
 subst hcv
 have HW3:Hid (W3=_):=hW3
 rw [hW3] at hpc
 clear hR2 hW3 hb3
 go_wp2_with fail
 rw [← HW3.out]
 clear hpc
 go_loopw [19] (fun i wr=>∃ k:Nat,k≤cs.length∧i = .int .i64 k∧Hid (FigAt wr w2.heap.size (unp ⟨u1,u2,u3,u4,u5⟩ (cs.take k)))∧Hid (Turned W3 wr w2.heap.size nilS)) (fun i _=>cs.length - (intOf i).toNat)
 case atStart=>exact ⟨0,Nat.zero_le _,rfl,HF3,Turned.refl _ _ _⟩
 case round=>
  obtain ⟨k,hk,rfl,HF,HTU⟩:=hrel
  by_cases hlt:k < cs.length
  ·rcases own_form HP3.out.own with ⟨_,a2,_⟩ | ⟨g,cp,e1,hg1,hg2,_⟩
   ·omega
   ·simp only [Value.slice.injEq] at e1
    obtain ⟨rfl,_,rfl⟩:=e1
    obtain ⟨x,hx⟩:∃ x,x=cs[k]:=⟨_,rfl⟩
    have HTK:Hid (unp ⟨u1,u2,u3,u4,u5⟩ (cs.take (k + 1))=(unp ⟨u1,u2,u3,u4,u5⟩ (cs.take k)).minus x.posted):=by
     show _=_
     rw [List.take_succ_eq_append_getElem hlt,unp_append,hx]
     rfl
    have hgw:g < w.heap.size:=HPL.out g rfl
    have hbl:wr.heap[g]?=W3.heap[g]?:=HTU.out.block g hg2 (by omega) (by simp [nilS,Value.ownBlock])
    have hcw:∀ j,j < 7→wr.cell? ⟨g,k * 7 + j,none⟩=(clC x)[j]?:=fun j hj=>by
     rw [World.cell?_of_block (a:=⟨g,k * 7 + j,none⟩) hbl,(own_cell clC_len HP3.out.own k j hlt hj).1,hx]
    obtain ⟨xm,xt,x1,x2,x3,x4,x5⟩:=x
    have q0:=hcw 0 (by omega)
    have q1:=hcw 1 (by omega)
    have q2:=hcw 2 (by omega)
    have q3:=hcw 3 (by omega)
    have q4:=hcw 4 (by omega)
    have q5:=hcw 5 (by omega)
    have q6:=hcw 6 (by omega)
    simp only [clC,figC,List.getElem?_cons_zero,List.getElem?_cons_succ,Nat.add_zero] at q0 q1 q2 q3 q4 q5 q6
    simp only at HTK
    obtain ⟨f,hf⟩:∃ f,f=unp ⟨u1,u2,u3,u4,u5⟩ (cs.take k):=⟨_,rfl⟩
    rw [← hf] at HF HTK
    clear hcw hx hf hbl
    obtain ⟨W4,hW4⟩:∃ W,W=wr.alloc (.cells #[.int .i64 xm,.int .i64 xt,.int .i64 x1,.int .i64 x2,.int .i64 x3,.int .i64 x4,.int .i64 x5] 170):=⟨_,rfl⟩
    have hb4:Below wr.heap.size wr W4:=by rw [hW4];exact (Below.refl _ _).alloc (Nat.le_refl _) _
    have hF4:=HF.out.below hb4
    have hT4:=turned_below HTU.out hb4
    have hmi:=minus_any f ⟨x1,x2,x3,x4,x5⟩ W4
    obtain ⟨R,hR⟩:∃ R,R=f.minus ⟨x1,x2,x3,x4,x5⟩:=⟨_,rfl⟩
    rw [← hR] at hmi HTK
    have c0:=hF4.c0
    have c1:=hF4.c1
    have c2:=hF4.c2
    have c3:=hF4.c3
    have c4:=hF4.c4
    rw [hW4] at c0 c1 c2 c3 c4
    have HF4:Hid (FigAt W4 w2.heap.size f):=hF4
    obtain ⟨f1,f2,f3,f4,f5⟩:=f
    obtain ⟨R1,R2,R3,R4,R5⟩:=R
    unfold figV at hmi
    simp only at hmi c0 c1 c2 c3 c4
    have HW4:Hid (W4=_):=hW4
    clear hF4 hW4 hR
    go_wp2_with fail
    rw [← HW4.out]
    refine hmi.mono ?_
    rintro r w5 ⟨rfl,hb5⟩
    have hF5:=HF4.out.below hb5
    have d0:=hF5.c0
    have d1:=hF5.c1
    have d2:=hF5.c2
    have d3:=hF5.c3
    have d4:=hF5.c4
    have e0:=hF5.z0
    have e1:=hF5.z1
    have e2:=hF5.z2
    have e3:=hF5.z3
    have e4:=hF5.z4
    simp only at d0 d1 d2 d3 d4
    have HF6:Hid (FigAt (set5 w5 w2.heap.size ⟨R1,R2,R3,R4,R5⟩) w2.heap.size ⟨R1,R2,R3,R4,R5⟩):=hF5.put _
    have HT6:Hid (Turned W3 (set5 w5 w2.heap.size ⟨R1,R2,R3,R4,R5⟩) w2.heap.size nilS):=(turned_below hT4 hb5).trans (turned_set5 _ _ _ _) (Fresh.refl _ _)
    clear hmi hF5 c0 c1 c2 c3 c4 q0 q1 q2 q3 q4 q5 q6 hT4
    go_wp2
    go_roundw
    case rel=>
     refine ⟨k + 1,by omega,by go_num,?_,HT6⟩
     show FigAt _ _ _
     rw [HTK.out]
     exact HF6.out
    case measure=>simp [intOf];omega
  ·obtain rfl:k=cs.length:=by omega
   rw [List.take_length,← HX.out] at HF
   have hR:=HR3.out.same (HTU.out.block w.heap.size (by omega) (by omega) (by simp [nilS,Value.ownBlock]))
   have d0:=hR.c0
   have d1:=hR.c1
   have d2:=hR.c2
   have d3:=hR.c3
   have d4:=hR.c4
   have e0:=hR.z0
   have e1:=hR.z1
   have e2:=hR.z2
   have e3:=hR.z3
   have e4:=hR.z4
   have c0:=HF.out.c0
   have c1:=HF.out.c1
   have c2:=HF.out.c2
   have c3:=HF.out.c3
   have c4:=HF.out.c4
   have HG:=(hR.put ⟨X1,X2,X3,X4,X5⟩)
   have hBF:Below w.heap.size w (set5 wr w.heap.size ⟨X1,X2,X3,X4,X5⟩):=by
    refine ⟨(set5_oth _ _ _).1.trans (HTU.out.os.trans hB3.os),(set5_oth _ _ _).2.1.trans (HTU.out.tape.trans hB3.tape),(set5_oth _ _ _).2.2.trans (HTU.out.output.trans hB3.output),?_,fun j hj=>?_⟩
    ·rw [set5_size];have:=HTU.out.size;omega
    ·rw [set5_other _ _ _ (by omega),HTU.out.block j (by omega) (by omega) (by simp [nilS,Value.ownBlock])]
     exact hB3.block j hj
   have g0:=HG.c0
   have g1:=HG.c1
   have g2:=HG.c2
   have g3:=HG.c3
   have g4:=HG.c4
   unfold set5 at g0 g1 g2 g3 g4
   simp only [fig0] at d0 d1 d2 d3 d4
   simp only at c0 c1 c2 c3 c4 g0 g1 g2 g3 g4
   have HBF:Hid _:=hBF
   clear hR HG hBF
   go_wp2
   refine bodyPost_ret (v:=.agg #[.int .i64 X1,.int .i64 X2,.int .i64 X3,.int .i64 X4,.int .i64 X5]) (by simp [results,Tryz.results168,go_sem, *]) rfl ⟨rfl,?_⟩
   exact HBF.out
set_option maxHeartbeats 4000000 in
theorem open_any {w:World} {B pp Bb pb:Nat} {cv sv:Value} {cs:List Cl} {b:Bk} (hp:PerAt w B pp cv cs) (hbk:BookAt w Bb pb sv b) (hi:Inv b) (ht:LenTab w) (hl:cs.length≤1000) :
  Calls Tryz.prog 186 #[.pointer (some ⟨pp,3,none⟩),.pointer (some ⟨pb,0,none⟩)] w fun r w'=>r = .returned (figV (unp (untl (srt (asOf b b.n)) 3300) cs))∧Below w.heap.size w w':=by
 obtain ⟨W0,hW0⟩:∃ W,W=w.alloc (.cells #[.int .i64 0,.int .i64 0,.int .i64 0,.int .i64 0,.int .i64 0] 151):=⟨_,rfl⟩
 have hb0:Below w.heap.size w W0:=by rw [hW0];exact (Below.refl _ _).alloc (Nat.le_refl _) _
 have hs0:w.heap.size < W0.heap.size:=by rw [hW0];simp
 have hR0:FigAt W0 w.heap.size fig0:=by rw [hW0];exact fig_new w
 have hor:=orEmpty_any ⟨pb,0,none⟩ W0
 have hun:=unposted_any (hp.below hb0) (hbk.below hb0) hi (ht.below hb0) hl 3300
 obtain ⟨X,hX⟩:∃ X,X=unp (untl (srt (asOf b b.n)) 3300) cs:=⟨_,rfl⟩
 rw [← hX] at hun ⊢
 obtain ⟨X1,X2,X3,X4,X5⟩:=X
 have HW0:Hid (W0=_):=hW0
 clear hX hp hbk hi ht hW0
 go_enter Tryz.func186,Tryz.ntmps186
 go_wp2_with fail
 rw [← HW0.out]
 refine hor.mono ?_
 rintro r w1 ⟨rfl,hw1⟩
 subst w1
 go_wp2_with fail
 refine hun.mono ?_
 rintro r w2 ⟨rfl,hb2⟩
 have hR:=hR0.below hb2
 have d0:=hR.c0
 have d1:=hR.c1
 have d2:=hR.c2
 have d3:=hR.c3
 have d4:=hR.c4
 have e0:=hR.z0
 have e1:=hR.z1
 have e2:=hR.z2
 have e3:=hR.z3
 have e4:=hR.z4
 have HG:=(hR.put ⟨X1,X2,X3,X4,X5⟩)
 have hBF:Below w.heap.size w (set5 w2 w.heap.size ⟨X1,X2,X3,X4,X5⟩):=by
  have hB:=hb0.trans (hb2.mono hb0.size)
  refine ⟨(set5_oth _ _ _).1.trans hB.os,(set5_oth _ _ _).2.1.trans hB.tape,(set5_oth _ _ _).2.2.trans hB.output,?_,fun j hj=>?_⟩
  ·rw [set5_size];exact hB.size
  ·rw [set5_other _ _ _ (by omega)]
   exact hB.block j hj
 have g0:=HG.c0
 have g1:=HG.c1
 have g2:=HG.c2
 have g3:=HG.c3
 have g4:=HG.c4
 unfold set5 at g0 g1 g2 g3 g4
 simp only [fig0] at d0 d1 d2 d3 d4
 simp only at g0 g1 g2 g3 g4
 have HBF:Hid _:=hBF
 unfold figV
 simp only
 clear hR HG hBF hR0 hor hun
 go_wp2
 refine bodyPost_ret (v:=.agg #[.int .i64 X1,.int .i64 X2,.int .i64 X3,.int .i64 X4,.int .i64 X5]) (by simp [results,Tryz.results186,go_sem, *]) rfl ⟨rfl,?_⟩
 exact HBF.out
set_option maxHeartbeats 4000000 in
theorem late_any {w:World} {B pp:Nat} {cv:Value} {cs:List Cl} (hp:PerAt w B pp cv cs) (ht:LenTab w) (hl:cs.length≤1000) (n:Int) (h0:0≤n) (h1:n≤99999) :
  Calls Tryz.prog 162 #[.pointer (some ⟨pp,3,none⟩),.int .i64 n] w fun r w'=>r = .returned (.bool (cov cs (dK n)))∧Below w.heap.size w w':=by
 have hmo:=dmonth_ok n w ht h0 h1
 have hco:=covers_any hp hl (dK n)
 obtain ⟨c,hc⟩:∃ c,c=cov cs (dK n):=⟨_,rfl⟩
 rw [← hc] at hco ⊢
 clear hc
 obtain ⟨N,hN⟩:∃ N,N=dK n:=⟨_,rfl⟩
 rw [← hN] at hmo hco
 clear hN hp ht
 go_enter Tryz.func162,Tryz.ntmps162
 go_wp2_with fail
 refine hmo.mono ?_
 rintro r w1 ⟨rfl,hw1⟩
 subst w1
 go_wp2_with fail
 refine hco.mono ?_
 rintro r w2 ⟨rfl,j,hw2⟩
 subst w2
 go_wp2
 go_ret
 exact ⟨rfl,drew_same _ _⟩
end Go.Proofs.YtbleojodidbhiaaGreatDoor
namespace Go.Proofs.YtbleojodidbhiaaGreatDoor
open Go.RowKit
set_option maxHeartbeats 1000000 in
theorem turn_any {B pb:Nat} {sv:Value} {b:Bk} {w:World} (h:BookAt w B pb sv b) :
  Calls Tryz.prog 19 #[.pointer (some ⟨pb,0,none⟩)] w fun e w'=>e = .returned (.int .i64 b.n)∧w'=w:=by
 have c1:=h.c1
 clear h
 go_enter Tryz.func19,Tryz.ntmps19
 go_wp2
 go_ret
 exact ⟨rfl,rfl⟩
end Go.Proofs.YtbleojodidbhiaaGreatDoor
namespace Go.Proofs.YtbleojodidbhiaaGreatDoor
open Go.RowKit Go.Maps
def DoesC (b:Bk) (cs:List Cl) (m c:Int) (F:Fig) (cs':List Cl):Prop:=
 ((m < 0∨3299 < m)∧c=1∧F=fig0∧cs'=cs)∨((0≤m∧m≤3299)∧cov cs m=true∧c=10∧F=fig0∧cs'=cs)
 ∨ ((0≤m∧m≤3299)∧cov cs m=false∧60≤cs.length∧c=12∧F=fig0∧cs'=cs)
 ∨ ((0≤m∧m≤3299)∧cov cs m=false∧cs.length < 60∧c=0∧F=unp (untl (srt (asOf b b.n)) m) cs∧cs'=cs ++ [⟨m,b.n,F⟩])
def clZ:Value:=.agg #[.int .i64 0,.int .i64 0,.int .i64 0,.int .i64 0,.int .i64 0,.int .i64 0,.int .i64 0]
theorem cl_info:(Tryz.prog.info? 170).map (fun i=>(i.zero,i.size,i.bytes))=some (some clZ,7,56):=by kernel_rfl
theorem clC_one (c:Cl):∀ u ∈ clC c,u.oneCell'=true:=by
 intro u hu
 simp only [clC,figC,List.mem_cons,List.not_mem_nil,or_false] at hu
 rcases hu with rfl | rfl | rfl | rfl | rfl | rfl | rfl <;> rfl
theorem below_set5b {w W:World} {b:Nat} (h:Below b w W) (f:Fig):Below b w (set5 W b f):=
 ⟨(set5_oth _ _ _).1.trans h.os,(set5_oth _ _ _).2.1.trans h.tape,(set5_oth _ _ _).2.2.trans h.output,by rw [set5_size];exact h.size,fun j hj=>by rw [set5_other _ _ _ (by omega)];exact h.block j hj⟩
theorem per_set5 {W:World} {B pp g:Nat} {cv:Value} {cs:List Cl} (h:PerAt W B pp cv cs) (hpp:pp ≠ g) (hcv:cv.ownBlock ≠ some g) (f:Fig):PerAt (set5 W g f) B pp cv cs:=
 h.turned (turned_set5 W g f nilS) hpp (by simp [nilS,Value.ownBlock]) hcv (by simp [nilS,Value.ownBlock])
theorem close_mem {w W5 w6:World} {B pp fb:Nat} {cv v6:Value} {cs:List Cl} {c:Cl} {X:Fig} (hp:PerAt w B pp cv cs) (hb5:Below w.heap.size w W5) (h1:w.heap.size < fb) (hR5:FigAt W5 w.heap.size fig0) (hF5:FigAt W5 fb X)
  (hown:w6.ownsRow B 170 7 v6 (cs.length + 1) (cs.flatMap clC ++ clC c)) (hgr:W5.grownBy w6 cv.ownBlock) (hfr:Fresh W5 cv v6) :
  (w6.cell? ⟨pp,3,none⟩=some cv∧w6.frozen? ⟨pp,3,none⟩=false)∧(FigAt (w6.setCell ⟨pp,3,none⟩ v6) fb X∧FigAt (w6.setCell ⟨pp,3,none⟩ v6) w.heap.size fig0)
   ∧ PerAt (set5 (w6.setCell ⟨pp,3,none⟩ v6) w.heap.size X) B pp v6 (cs ++ [c])∧TurnI 3 (3 + 1) w (set5 (w6.setCell ⟨pp,3,none⟩ v6) w.heap.size X) pp cv∧Fresh w cv v6:=by
 have hpl:=hp.lt
 have hcl:∀ g,cv.ownBlock=some g→g < w.heap.size:=fun g hg=>(hp.own.lt g hg).2
 have hP5:=hp.below hb5
 have e6:w6.heap[pp]?=W5.heap[pp]?:=hgr.block pp hP5.lt (fun e=>hp.ne e.symm)
 have k0:w6.cell? ⟨pp,3,none⟩=some cv:=(World.cell?_of_block (a:=⟨pp,3,none⟩) e6).trans hP5.c0
 have z0:w6.frozen? ⟨pp,3,none⟩=false:=(World.frozen?_of_block (a:=⟨pp,3,none⟩) e6).trans hP5.f0
 have eF:(w6.setCell ⟨pp,3,none⟩ v6).heap[fb]?=W5.heap[fb]?:=(Below.heap_setCell _ _ _ _ (by show fb ≠ pp;omega)).trans (hgr.block fb hF5.lt (fun e=>by have:=hcl fb e.symm;omega))
 have eR:(w6.setCell ⟨pp,3,none⟩ v6).heap[w.heap.size]?=W5.heap[w.heap.size]?:=(Below.heap_setCell _ _ _ _ (by show w.heap.size ≠ pp;omega)).trans (hgr.block w.heap.size hR5.lt (fun e=>by have:=hcl _ e.symm;omega))
 have h5:w.heap.size < W5.heap.size:=hR5.lt
 have hfw:Fresh w cv v6:=fun k hk=>by
  rcases hfr k hk with h | h
  ·exact Or.inl h
  ·exact Or.inr (by omega)
 have hv1:v6.ownBlock ≠ some pp:=fun e=>by
  rcases hfr pp e with h | h
  ·exact hp.ne h
  ·omega
 have hv2:v6.ownBlock ≠ some w.heap.size:=fun e=>by
  rcases hfr _ e with h | h
  ·have:=hcl _ h;omega
  ·omega
 refine ⟨⟨k0,z0⟩,⟨hF5.same eF,hR5.same eR⟩,?_,?_,hfw⟩
 ·have hQ:PerAt (w6.setCell ⟨pp,3,none⟩ v6) B pp v6 (cs ++ [c]):=by
   refine ⟨set_same k0,set_frz.trans z0,?_,hv1,hp.ge⟩
   rw [List.length_append,List.flatMap_append]
   simp only [List.flatMap_cons,List.flatMap_nil,List.append_nil,List.length_cons,List.length_nil,Nat.zero_add]
   exact row_same hown fun k hk=>Below.heap_setCell _ _ _ _ (by show k ≠ pp;exact fun e=>hv1 (e ▸ hk))
  exact per_set5 hQ (by omega) hv2 X
 ·have ep:(set5 (w6.setCell ⟨pp,3,none⟩ v6) w.heap.size X).heap[pp]?=(w6.setCell ⟨pp,3,none⟩ v6).heap[pp]?:=set5_other _ _ _ (by omega)
  have eb:w6.heap[pp]?=w.heap[pp]?:=e6.trans (hb5.block pp hpl)
  refine ⟨⟨?_,?_,?_,?_,fun k hk h2 h3=>?_⟩,fun _ _ o ho=>?_,fun _ _ o=>?_⟩
  rotate_left 5
  ·rw [World.cell?_of_block (a:=⟨pp,o,none⟩) ep,set_other (by intro e;injection e with _ e2;omega),World.cell?_of_block (a:=⟨pp,o,none⟩) eb]
  ·rw [World.frozen?_of_block (a:=⟨pp,o,none⟩) ep,set_frz,World.frozen?_of_block (a:=⟨pp,o,none⟩) eb]
  ·rw [(set5_oth _ _ _).1,sc_os];exact hgr.os.trans hb5.os
  ·rw [(set5_oth _ _ _).2.1,sc_tape];exact hgr.tape.trans hb5.tape
  ·rw [(set5_oth _ _ _).2.2,sc_out];exact hgr.output.trans hb5.output
  ·rw [set5_size]
   have e:(w6.setCell ⟨pp,3,none⟩ v6).heap.size=w6.heap.size:=by simp [World.setCell]
   rw [e]
   exact Nat.le_trans hb5.size hgr.size
  ·rw [set5_other _ _ _ (by omega),Below.heap_setCell _ _ _ _ (by show k ≠ pp;exact h2),hgr.block k (by omega) (fun e=>h3 e.symm)]
   exact hb5.block k hk
def CloseP (w:World) (B pp:Nat) (cv:Value) (b:Bk) (cs:List Cl) (m:Int) (r:Ending) (w':World):Prop:=
 ∃ F c cs' cv',r = .returned (.tuple #[figV F,errV c])∧DoesC b cs m c F cs'∧PerAt w' B pp cv' cs'∧TurnI 3 (3 + 1) w w' pp cv∧Fresh w cv cv'
set_option maxRecDepth 20000 in
set_option maxHeartbeats 8000000 in
theorem close_any {w:World} {B pp Bb pb:Nat} {cv sv:Value} {cs:List Cl} {b:Bk} (hp:PerAt w B pp cv cs) (hbk:BookAt w Bb pb sv b) (hi:Inv b) (ht:LenTab w) (hl:cs.length≤1000) (m:Int) :
  Calls Tryz.prog 111 #[.pointer (some ⟨pp,3,none⟩),.pointer (some ⟨pb,0,none⟩),.int .i64 m] w (CloseP w B pp cv b cs m):=by
 obtain ⟨i0,hi0,hz0,hz1,hz2⟩:=info_parts cl_info
 obtain ⟨W0,hW0⟩:∃ W,W=w.alloc (.cells #[.int .i64 0,.int .i64 0,.int .i64 0,.int .i64 0,.int .i64 0] 151):=⟨_,rfl⟩
 have hb0:Below w.heap.size w W0:=by rw [hW0];exact (Below.refl _ _).alloc (Nat.le_refl _) _
 have hs0:w.heap.size < W0.heap.size:=by rw [hW0];simp
 have hR0:FigAt W0 w.heap.size fig0:=by rw [hW0];exact fig_new w
 have hpl:=hp.lt
 have HCL:Hid (∀ g,cv.ownBlock=some g→g < w.heap.size):=fun g hg=>(hp.own.lt g hg).2
 have HW0:Hid (W0=_):=hW0
 have HERR:Hid (∀ (W:World) (c:Int),Below W0.heap.size W0 W→DoesC b cs m c fig0 cs→CloseP w B pp cv b cs m (.returned (.tuple #[figV fig0,errV c])) (set5 W w.heap.size fig0)):=fun W c hb hd=>by
  have hB:Below w.heap.size w W:=hb0.trans (hb.mono hb0.size)
  exact ⟨fig0,c,cs,cv,rfl,hd,per_set5 (hp.below hB) (by omega) (fun e=>by have:=HCL.out _ e;omega) fig0,TurnI.of_below (below_set5b hB fig0),Fresh.refl _ _⟩
 by_cases hm:m < 0∨3299 < m
 ·have hE:CloseP w B pp cv b cs m (.returned (.tuple #[figV fig0,errV 1])) W0:=
   ⟨fig0,1,cs,cv,rfl,Or.inl ⟨hm,rfl,rfl,rfl⟩,hp.below hb0,TurnI.of_below hb0,Fresh.refl _ _⟩
  have HE:Hid (CloseP w B pp cv b cs m (.returned (.tuple #[figV fig0,errV 1])) W0):=hE
  rw [hW0] at HE
  clear hE HERR hR0 hW0 HW0 hp hbk
  by_cases hm0:m < 0
  ·go_enter Tryz.func111,Tryz.ntmps111
   go_wp2
   refine bodyPost_ret (v:=.tuple #[.agg #[.int .i64 0,.int .i64 0,.int .i64 0,.int .i64 0,.int .i64 0],.iface 69 (.int .i64 1)]) (by simp [results,Tryz.results111,go_sem]) rfl ?_
   exact HE.out
  ·have hm1:3299 < m:=by omega
   go_enter Tryz.func111,Tryz.ntmps111
   go_wp2
   refine bodyPost_ret (v:=.tuple #[.agg #[.int .i64 0,.int .i64 0,.int .i64 0,.int .i64 0,.int .i64 0],.iface 69 (.int .i64 1)]) (by simp [results,Tryz.results111,go_sem]) rfl ?_
   exact HE.out
 ·have hm0:0≤m:=by omega
  have hm1:m≤3299:=by omega
  have hco:=covers_any (hp.below hb0) hl m
  have HP:Hid (PerAt w B pp cv cs):=hp
  have HBK:Hid (BookAt w Bb pb sv b):=hbk
  have HI:Hid (Inv b):=hi
  have HT:Hid (LenTab w):=ht
  clear hW0 hp hbk hi ht
  generalize hcv0:cov cs m=cb at hco
  have HCV:Hid (cov cs m=cb):=hcv0
  clear hcv0
  go_enter Tryz.func111,Tryz.ntmps111
  go_wp2_with fail
  rw [← HW0.out]
  refine hco.mono ?_
  rintro r w1 ⟨rfl,j,hw1⟩
  have hb1:Below W0.heap.size W0 w1:=by rw [hw1];exact drew_same _ _
  have hR1:=hR0.below hb1
  have hP1:=HP.out.below (hb0.trans (hb1.mono hb0.size))
  clear hco hw1 hR0
  cases cb with
  | true=>
   have HE:Hid (CloseP w B pp cv b cs m (.returned (.tuple #[figV fig0,errV 10])) (set5 w1 w.heap.size fig0)):=HERR.out w1 10 hb1 (Or.inr (Or.inl ⟨⟨hm0,hm1⟩,HCV.out,rfl,rfl,rfl⟩))
   have d0:=hR1.c0
   have d1:=hR1.c1
   have d2:=hR1.c2
   have d3:=hR1.c3
   have d4:=hR1.c4
   have e0:=hR1.z0
   have e1:=hR1.z1
   have e2:=hR1.z2
   have e3:=hR1.z3
   have e4:=hR1.z4
   simp only [fig0] at d0 d1 d2 d3 d4
   have HG:=(hR1.put fig0)
   have g0:=HG.c0
   have g1:=HG.c1
   have g2:=HG.c2
   have g3:=HG.c3
   have g4:=HG.c4
   unfold set5 at g0 g1 g2 g3 g4
   simp only [fig0] at g0 g1 g2 g3 g4
   clear HG
   clear hR1 HERR
   go_wp2
   refine bodyPost_ret (v:=.tuple #[.agg #[.int .i64 0,.int .i64 0,.int .i64 0,.int .i64 0,.int .i64 0],.iface 69 (.int .i64 10)]) (by simp [results,Tryz.results111,go_sem,g0,g1,g2,g3,g4]) rfl ?_
   exact HE.out
  | false=>
   obtain ⟨ad,cap,hcv⟩:=own_lenN hP1.own
   subst hcv
   have p0:=hP1.c0
   by_cases h60:60≤cs.length
   ·have HE:Hid (CloseP w B pp (.slice ad cs.length cap) b cs m (.returned (.tuple #[figV fig0,errV 12])) (set5 w1 w.heap.size fig0)):=HERR.out w1 12 hb1 (Or.inr (Or.inr (Or.inl ⟨⟨hm0,hm1⟩,HCV.out,h60,rfl,rfl,rfl⟩)))
    have d0:=hR1.c0
    have d1:=hR1.c1
    have d2:=hR1.c2
    have d3:=hR1.c3
    have d4:=hR1.c4
    have e0:=hR1.z0
    have e1:=hR1.z1
    have e2:=hR1.z2
    have e3:=hR1.z3
    have e4:=hR1.z4
    simp only [fig0] at d0 d1 d2 d3 d4
    have HG:=(hR1.put fig0)
    have g0:=HG.c0
    have g1:=HG.c1
    have g2:=HG.c2
    have g3:=HG.c3
    have g4:=HG.c4
    unfold set5 at g0 g1 g2 g3 g4
    simp only [fig0] at g0 g1 g2 g3 g4
    clear HG
    clear hR1 HERR
    go_wp2
    refine bodyPost_ret (v:=.tuple #[.agg #[.int .i64 0,.int .i64 0,.int .i64 0,.int .i64 0,.int .i64 0],.iface 69 (.int .i64 12)]) (by simp [results,Tryz.results111,go_sem,g0,g1,g2,g3,g4]) rfl ?_
    exact HE.out
   ·have hB1:Below w.heap.size w w1:=hb0.trans (hb1.mono hb0.size)
    have hor:=orEmpty_any ⟨pb,0,none⟩ w1
    have hun:=unposted_any (HP.out.below hB1) (HBK.out.below hB1) HI.out (HT.out.below hB1) hl m
    obtain ⟨X,hX⟩:∃ X,X=unp (untl (srt (asOf b b.n)) m) cs:=⟨_,rfl⟩
    rw [← hX] at hun
    have HX:Hid (X=unp (untl (srt (asOf b b.n)) m) cs):=hX
    obtain ⟨X1,X2,X3,X4,X5⟩:=X
    have h60':(cs.length:Int) < 60:=by omega
    clear hX HERR
    go_wp2_with fail
    refine hor.mono ?_
    rintro r w2 ⟨rfl,hw2⟩
    subst w2
    go_wp2_with fail
    refine hun.mono ?_
    rintro r w2 ⟨rfl,hb2⟩
    unfold figV
    simp only
    clear hor hun p0
    obtain ⟨W3,hW3⟩:∃ W,W=w2.alloc (.cells #[.int .i64 X1,.int .i64 X2,.int .i64 X3,.int .i64 X4,.int .i64 X5] 151):=⟨_,rfl⟩
    have hb3:Below w2.heap.size w2 W3:=by rw [hW3];exact (Below.refl _ _).alloc (Nat.le_refl _) _
    have hF3:FigAt W3 w2.heap.size ⟨X1,X2,X3,X4,X5⟩:=by rw [hW3];constructor <;> simp
    have hR3:=(hR1.below hb2).below hb3
    have hB2:Below w.heap.size w w2:=hB1.trans (hb2.mono hB1.size)
    have hB3:Below w.heap.size w W3:=hB2.trans (hb3.mono hB2.size)
    have HW3:Hid (W3=_):=hW3
    have hs3:w2.heap.size < W3.heap.size:=by rw [hW3];simp
    have hs2:w.heap.size < w2.heap.size:=Nat.lt_of_lt_of_le hs0 (Nat.le_trans hb1.size hb2.size)
    clear hW3 hR1 hP1
    go_wp2_with fail
    rw [← HW3.out]
    refine wp_region_turn [(.pure,0),(.pure,1),(.pure,2),(.pure,3),(.read,4),(.pure,5),(.pure,6),(.read,8),(.make,7),(.pure,9),(.make,10),(.turn,11),(.pure,12),(.pure,13),(.turn,14)] (by kernel_rfl) (by kernel_rfl) ?_
    obtain ⟨W4,hW4⟩:∃ W,W=W3.drew:=⟨_,rfl⟩
    rw [← hW4]
    have hb4:Below W3.heap.size W3 W4:=by rw [hW4];exact below_drew _
    have hB4:Below w.heap.size w W4:=hB3.trans (hb4.mono hB3.size)
    have hP4:=HP.out.below hB4
    have hF4:=hF3.below hb4
    have htu:=turn_any (HBK.out.below hB4)
    have hU:=up_ne
    have hA:=anyW_ne
    have p0:=fun n:Up W4=>n.cell hP4.c0
    have p1:=fun n:Up W4=>n.cell hF4.c0
    have p2:=fun n:Up W4=>n.cell hF4.c1
    have p3:=fun n:Up W4=>n.cell hF4.c2
    have p4:=fun n:Up W4=>n.cell hF4.c3
    have p5:=fun n:Up W4=>n.cell hF4.c4
    simp only at p1 p2 p3 p4 p5
    have HP4:Hid (PerAt W4 B pp (.slice ad cs.length cap) cs):=hP4
    clear hW4 hP4
    repeat (first | refine turn_p rfl ?_ | refine turn_q rfl ?_);go_big_quiet_step (fail);refine wpQuiet_nil ?_
    refine turn_n rfl ?_
    clear p0 p1 p2 p3 p4 p5
    go_wp2_with fail
    refine htu.mono ?_
    rintro r w5 ⟨rfl,hw5⟩
    subst w5
    clear htu
    go_wp2_with fail
    refine ⟨rfl,Below.refl _ _,?_⟩
    repeat (first | refine turn_p rfl ?_ | refine turn_q rfl ?_);go_big_quiet_step (fail);refine wpQuiet_nil ?_
    refine turn_n rfl ?_
    go_wp2_with fail
    refine ⟨rfl,(Below.refl _ _).alloc (Nat.le_refl _) _,?_⟩
    refine turn_t rfl ?_
    refine wpList_append_new _ rfl _ _ 32 rfl B 170 i0 clZ 7 56 Tryz.underlying32 hi0 hz0 hz1 hz2 rfl (by decide) (.slice ad cs.length cap) _ _ rfl (HP4.out.own.alloc _) ⟨W4.heap.size,0,none⟩ 1 1 (clC ⟨m,b.n,⟨X1,X2,X3,X4,X5⟩⟩) rfl rfl ?d1 ?d2 ?d3 ?d4 ?d5 (by decide) ?_
    case d1=>exact cells_of_list rfl
    case d2=>exact clC_one _
    case d3=>unfold maxLen;omega
    case d4=>omega
    case d5=>have:=HP4.out.ge;have:=HP4.out.lt;simp;omega
    intro v6 w6 hown6 hgr6 hfr6
    obtain ⟨W5,hW5⟩:∃ W,W=W4.alloc (.cells (clC ⟨m,b.n,⟨X1,X2,X3,X4,X5⟩⟩).toArray 170):=⟨_,rfl⟩
    have hb5:Below W4.heap.size W4 W5:=by rw [hW5];exact (Below.refl _ _).alloc (Nat.le_refl _) _
    have hgr:W5.grownBy w6 (Value.slice ad cs.length cap).ownBlock:=by rw [hW5];exact hgr6
    have hfr:Fresh W5 (.slice ad cs.length cap) v6:=by rw [hW5];exact hfr6
    have hB5:Below w.heap.size w W5:=hB4.trans (hb5.mono hB4.size)
    obtain ⟨⟨k0,z0⟩,⟨hF7,hR7⟩,hP8,hT8,hfw⟩:=close_mem HP.out hB5 hs2 ((hR3.below hb4).below hb5) (hF4.below hb5) hown6 hgr hfr
    have HP8:Hid _:=And.intro hP8 (And.intro hT8 hfw)
    clear hgr6 hfr6 hgr hfr hW5 hown6 hP8 hT8 hfw hb5 hB5 hR3 hF4 hF3
    obtain ⟨ad6,cap6,hv6⟩:∃ ad6 cap6,v6 = .slice ad6 (cs.length + 1) cap6:=by
     obtain ⟨a,c,e⟩:=own_lenN HP8.out.1.own
     rw [List.length_append] at e
     exact ⟨a,c,e⟩
    subst hv6
    go_wp2_with fail
    refine ⟨rfl,?_⟩
    repeat (first | refine turn_p rfl ?_ | refine turn_q rfl ?_);go_big_quiet_step (fail);refine wpQuiet_nil ?_
    refine turn_t rfl ?_
    go_wp2_with fail
    refine ⟨rfl,?_⟩
    refine turn_nil ?_
    clear k0 z0
    have c0:=hF7.c0
    have c1:=hF7.c1
    have c2:=hF7.c2
    have c3:=hF7.c3
    have c4:=hF7.c4
    have d0:=hR7.c0
    have d1:=hR7.c1
    have d2:=hR7.c2
    have d3:=hR7.c3
    have d4:=hR7.c4
    have e0:=hR7.z0
    have e1:=hR7.z1
    have e2:=hR7.z2
    have e3:=hR7.z3
    have e4:=hR7.z4
    simp only [fig0] at d0 d1 d2 d3 d4
    have HG:=(hR7.put ⟨X1,X2,X3,X4,X5⟩)
    have g0:=HG.c0
    have g1:=HG.c1
    have g2:=HG.c2
    have g3:=HG.c3
    have g4:=HG.c4
    unfold set5 at g0 g1 g2 g3 g4
    simp only at g0 g1 g2 g3 g4 c0 c1 c2 c3 c4
    have HCP:Hid (CloseP w B pp (.slice ad cs.length cap) b cs m (.returned (.tuple #[figV ⟨X1,X2,X3,X4,X5⟩,errV 0])) (set5 (w6.setCell ⟨pp,3,none⟩ (.slice ad6 (cs.length + 1) cap6)) w.heap.size ⟨X1,X2,X3,X4,X5⟩)):=
     ⟨_,0,_,_,rfl,Or.inr (Or.inr (Or.inr ⟨⟨hm0,hm1⟩,HCV.out,by omega,rfl,HX.out,rfl⟩)),HP8.out.1,HP8.out.2.1,HP8.out.2.2⟩
    clear HG hF7 hR7 HP8
    go_wp2
    refine bodyPost_ret (v:=.tuple #[.agg #[.int .i64 X1,.int .i64 X2,.int .i64 X3,.int .i64 X4,.int .i64 X5],.nilIface]) (by simp [results,Tryz.results111,go_sem,g0,g1,g2,g3,g4]) rfl ?_
    exact HCP.out
theorem nil_cl (w:World):(binOp BinOp.eql 32 (.slice none 0 0) (.slice none 0 0)).run Tryz.prog w = .ok (.bool true) w:=by kernel_rfl
theorem some_cl (a:Addr) (n c:Nat) (w:World):(binOp BinOp.eql 32 (.slice (some a) n c) (.slice none 0 0)).run Tryz.prog w = .ok (.bool false) w:=by kernel_rfl
set_option maxHeartbeats 1000000 in
theorem clone_cl {B:Nat} (l:List Cl) (v:Value) (w:World) (h:w.ownsRow B 170 7 v l.length (l.flatMap clC)) (hl:l.length≤1000) :
  Calls Tryz.prog 177 #[v] w fun r w'=>∃ v':Value,r = .returned v'∧w'.ownsRow w.heap.size 170 7 v' l.length (l.flatMap clC)∧Below w.heap.size w w':=by
 obtain ⟨i0,hi,hz0,hz1,hz2⟩:=info_parts cl_info
 rcases own_form h with ⟨hv,hn,_⟩ | ⟨g,cap,hv,_,hgl,_⟩
 ·subst hv
  have hz:l=[]:=List.length_eq_zero_iff.1 hn
  subst hz
  go_enter Tryz.func177,Tryz.ntmps177
  have hne:=nil_cl
  go_wp2
  go_ret
  exact ⟨_,rfl,World.ownsRow_nil _ _ _ _,Below.refl _ _⟩
 ·subst hv
  have hcs:=h.cells (g:=g) rfl
  have HCS:Hid (∀ j u,(l.flatMap clC)[j]?=some u→w.cell? ((⟨g,0,none⟩:Addr).add j)=some u):=hcs
  have hfl:=flat_len clC 7 clC_len l
  clear h hcs
  have hE:(w.alloc (.cells #[] 170)).ownsRow w.heap.size 170 7 (.slice (some ⟨w.heap.size,0,none⟩) 0 0) 0 []:=
   ⟨rfl,Or.inr ⟨w.heap.size,0,#[],rfl,Nat.le_refl _,heap_alloc_new w _,Nat.le_refl _,Nat.zero_le _,rfl,rfl⟩⟩
  have HE:Hid _:=hE
  clear hE
  go_enter Tryz.func177,Tryz.ntmps177
  have hne:=some_cl
  go_wp2_with (first
   | (at_builtin;refine wpList_append_own _ rfl _ _ 32 rfl w.heap.size 170 i0 clZ 7 56 Tryz.underlying32 hi hz0 hz1 hz2 rfl (by decide) _ _ _ rfl HE.out ⟨g,0,none⟩ l.length cap (l.flatMap clC) rfl (by rw [hfl]) ?d1 ?d2 ?d3 ?d4 (by simp) ?_)
   | go_in)
  case d1=>
   intro j u hj
   have hadd:(⟨g,0,none⟩:Addr).add j=⟨g,j,none⟩:=by unfold Addr.add;split <;> simp_all
   have:=HCS.out j u hj
   rw [hadd] at this
   exact this
  case d2=>
   intro u e _ he
   exact clC_one e u he
  case d3=>unfold maxLen;omega
  case d4=>omega
  intro v' w3 hown3 hgr _
  have HB3:Hid (Below w.heap.size w w3):=((Below.refl w.heap.size w).alloc (Nat.le_refl _) _).grown hgr (by simp) (fun j hj=>by simp [Value.ownBlock] at hj;omega)
  clear hgr
  go_wp2
  go_ret
  exact ⟨_,rfl,hown3,HB3.out⟩
set_option maxHeartbeats 1000000 in
theorem closed_any {w:World} {B pp:Nat} {cv:Value} {cs:List Cl} (hp:PerAt w B pp cv cs) (hl:cs.length≤1000) :
  Calls Tryz.prog 123 #[.pointer (some ⟨pp,3,none⟩)] w fun r w'=>∃ v':Value,r = .returned v'∧w'.ownsRow w.heap.size 170 7 v' cs.length (cs.flatMap clC)∧Below w.heap.size w w':=by
 have hcl:=clone_cl cs cv w hp.own hl
 have hc:=hp.c0
 obtain ⟨ad,cap,hcv⟩:=own_lenN hp.own
 subst hcv
 clear hp
 go_enter Tryz.func123,Tryz.ntmps123
 go_wp2_with fail
 refine hcl.mono ?_
 rintro r w1 ⟨v,rfl,hown,hb⟩
 obtain ⟨ad1,cap1,hv⟩:=own_lenN hown
 subst hv
 go_wp2
 go_ret
 exact ⟨_,rfl,hown,hb⟩
end Go.Proofs.YtbleojodidbhiaaGreatDoor
