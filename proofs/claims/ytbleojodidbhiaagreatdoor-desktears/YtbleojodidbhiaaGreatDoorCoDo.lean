/-  -/
import Derived.Test.YtbleojodidbhiaaGreatDoorBnG
import Derived.Deep.DeepCutAuto
namespace Go.Proofs.YtbleojodidbhiaaGreatDoor
open Go.RowKit
def LineBox (W:World) (b:Nat):Prop:=∀ j,j < 5→W.cell? ⟨b,j,none⟩=some (#[Value.int .i64 0,.int .i64 0,.int .i64 0,.int .i64 0,.bool false][j]!)∧W.frozen? ⟨b,j,none⟩=false
theorem LineBox.same {W W':World} {b:Nat} (h:LineBox W b) (e:W'.heap[b]?=W.heap[b]?):LineBox W' b:=fun j hj=>
 ⟨(World.cell?_of_block (a:=⟨b,j,none⟩) e).trans (h j hj).1,(World.frozen?_of_block (a:=⟨b,j,none⟩) e).trans (h j hj).2⟩
set_option maxHeartbeats 2000000 in
theorem do_does {pb:Nat} {sv:Value} {s:Stk} {w:World} {n:Nat} (h:StkAt w pb sv s) (ok:StkOK n s) (hn:n≤10000) (e:Ev) (hr:rtK e.kind e.qty e.price e.ofI) :
  Calls Tryz.prog 212 #[.pointer (some ⟨pb,0,none⟩),evV e] w fun r w'=>r = .returned (.agg (linC (doE s e).2).toArray)∧∃ sv',StkAt w' pb sv' (doE s e).1∧Turned w w' pb sv∧Fresh w sv sv':=by
 have hl:s.ys.length≤1000000:=by have:=ok.len;omega
 have hsv:sumV s.ys≤3000000000000000000:=by have:=ok.v;omega
 have HS:Hid (StkAt w pb sv s):=h
 have HOK:Hid (StkOK n s):=ok
 have hpb:=h.lt
 have hne1:sv.ownBlock ≠ some (w.heap.size + 1):=fun e=>by have:=h.lay.lt e;omega
 have hne0:sv.ownBlock ≠ some w.heap.size:=fun e=>by have:=h.lay.lt e;omega
 clear h ok
 have hR0:rtK e.kind e.qty e.price e.ofI:=hr
 obtain ⟨id,item,kind,qty,price,ofI,day⟩:=e
 unfold evV
 simp only at hr hR0 ⊢
 obtain ⟨W0,hW0⟩:∃ W,W=(w.alloc (.cells #[.int .i64 id,.string item,.int .i64 kind,.int .i64 qty,.int .i64 price,.int .i64 ofI,.int .i64 day] 93)).alloc (.cells #[.int .i64 0,.int .i64 0,.int .i64 0,.int .i64 0,.bool false] 180):=⟨_,rfl⟩
 have hB0:Below w.heap.size w W0:=by rw [hW0];exact ((Below.refl _ _).alloc (Nat.le_refl _) _).alloc (by simp) _
 have H0:=HS.out.below hB0
 have hE:EvAt W0 w.heap.size ⟨id,item,kind,qty,price,ofI,day⟩:=by rw [hW0];constructor <;> simp
 have hR:LineBox W0 (w.heap.size + 1):=by
  intro j hj
  rw [hW0]
  have:j=0∨j=1∨j=2∨j=3∨j=4:=by omega
  rcases this with rfl | rfl | rfl | rfl | rfl <;> simp
 have hsz0:W0.heap.size=w.heap.size + 2:=by rw [hW0];simp
 have HW0:Hid (W0=_):=hW0
 have HR:Hid (LineBox W0 (w.heap.size + 1)):=hR
 have HE:Hid (EvAt W0 w.heap.size ⟨id,item,kind,qty,price,ofI,day⟩):=hE
 have HH0:Hid (StkAt W0 pb sv s):=H0
 clear hW0 hR hE H0
 have X:Hid (rtK kind qty price ofI):=hr
 clear hr hR0
 go_enter Tryz.func212,Tryz.ntmps212
 go_upto_region 1 with fail
 rw [← HW0.out]
 have q0:=HE.out.c0
 have q2:=HE.out.c2
 have q3:=HE.out.c3
 have q4:=HE.out.c4
 simp only at q0 q2 q3 q4
 have p1:=HH0.out.c1
 have pf1:=HH0.out.f1
 rcases X.out with ⟨e1,x1,x2,x3⟩ | ⟨e1,x1,x2,x3⟩ | ⟨e1,x1,x2,x3⟩ | ⟨e1,x1,x2,x3⟩
 ·have HD:Hid (doE s ⟨id,item,kind,qty,price,ofI,day⟩=(⟨s.ys ++ [⟨id,qty,qty * price⟩],price⟩,⟨id,qty * price,0,0,false⟩)):=by
   show _=_
   unfold doE;rw [if_pos e1]
  have hq5:∀ o,W0.cell? ⟨w.heap.size,o,none⟩=W0.cell? ⟨w.heap.size,o,none⟩:=fun _=>rfl
  clear hq5 x3
  go_wp2_with fail
  refine wp_region_keep (SameAt w.heap.size) [(true,0),(true,1),(true,2),(true,3),(true,4),(true,5),(true,6),(false,7),(true,8),(false,9)] (sameAt_refl _) (sameAt_trans _) (by kernel_rfl) (by kernel_rfl) ?_
  obtain ⟨W1,hW1⟩:∃ W,W=W0.setCell ⟨pb,1,none⟩ (.int .i64 price):=⟨_,rfl⟩
  rw [← hW1]
  obtain ⟨W2,hW2⟩:∃ W,W=W1.drew:=⟨_,rfl⟩
  rw [← hW2]
  have S1:StkAt W1 pb sv ⟨s.ys,price⟩:=by rw [hW1];exact HH0.out.put1 price
  have T1:Turned w W1 pb sv:=by rw [hW1];exact (Turned.of_below hB0).trans (turned_set _ _ _ sv _) (Fresh.refl _ _)
  have hb2:Below W1.heap.size W1 W2:=by rw [hW2];exact below_drew _
  have S2:=S1.below hb2
  have T2:Turned w W2 pb sv:=T1.onBelow (hb2.mono T1.size)
  have eb0:W2.heap[w.heap.size]?=W0.heap[w.heap.size]?:=by rw [hW2,hW1];exact Below.heap_setCell _ _ _ _ (by show w.heap.size ≠ pb;omega)
  have eb1:W2.heap[w.heap.size + 1]?=W0.heap[w.heap.size + 1]?:=by rw [hW2,hW1];exact Below.heap_setCell _ _ _ _ (by show w.heap.size + 1 ≠ pb;omega)
  have hs2:w.heap.size + 1 < W2.heap.size:=by have:=T2.size;rw [hW2,hW1];simp [World.setCell];omega
  have LB2:LineBox W2 (w.heap.size + 1):=HR.out.same eb1
  have g0:=(World.cell?_of_block (a:=⟨w.heap.size,0,none⟩) eb0).trans q0
  have g3:=(World.cell?_of_block (a:=⟨w.heap.size,3,none⟩) eb0).trans q3
  have hU:=upK_ne w.heap.size
  have f0:=fun n:UpK (SameAt w.heap.size) W2=>n.cell g0
  have f3:=fun n:UpK (SameAt w.heap.size) W2=>n.cell g3
  have HLB2:Hid (LineBox W2 (w.heap.size + 1)):=LB2
  clear hW1 hW2 q0 q2 q3 q4 p1 pf1 g0 g3 LB2 eb0 eb1 e1
  repeat (refine keep_q rfl ?_;go_big_quiet_step (fail);refine wpQuiet_nil ?_)
  refine keep_n rfl ?_
  clear f0 f3
  go_wp2_with fail
  refine (put_does S2 hl id qty (by omega) (by omega) x2).mono ?_
  rintro r0 w3 ⟨rfl,sv3,S3,T3,F3⟩
  have hsame:SameAt w.heap.size W2 w3:=T3.block _ (by omega) (by omega) hne0
  have LB:LineBox w3 (w.heap.size + 1):=HLB2.out.same (T3.block _ hs2 (by omega) hne1)
  have r0:=(LB 0 (by omega)).1
  have r1:=(LB 1 (by omega)).1
  have r2:=(LB 2 (by omega)).1
  have r3:=(LB 3 (by omega)).1
  have r4:=(LB 4 (by omega)).1
  have z0:=(LB 0 (by omega)).2
  have z1:=(LB 1 (by omega)).2
  have z2:=(LB 2 (by omega)).2
  have z3:=(LB 3 (by omega)).2
  have z4:=(LB 4 (by omega)).2
  simp at r0 r1 r2 r3 r4
  have HS3:Hid (StkAt w3 pb sv3 _):=S3
  have HTT:Hid (Turned w w3 pb sv):=T2.trans T3 (Fresh.refl _ _)
  have HF3:Hid (Fresh w sv sv3):=F3.grow T2.size
  have hne3:sv3.ownBlock ≠ some (w.heap.size + 1):=fun e=>by
   rcases F3 _ e with x | x
   ·exact hne1 x
   ·omega
  clear S3 T3 F3 LB
  simp only
  go_wp2_with fail
  refine ⟨rfl,hsame,?_⟩
  refine keep_q rfl ?_
  go_big_quiet_step (fail)
  refine wpQuiet_nil ?_
  refine keep_n rfl ?_
  go_wp2_with fail
  refine ⟨rfl,(box5 w3 (w.heap.size + 1) (w.heap.size + 1) _ _ _ _ _ (Nat.le_refl _)).block _ (by omega),?_⟩
  refine keep_nil ?_
  have hB5:=fun v0 v1 v2 v3 v4=>box5 w3 w.heap.size (w.heap.size + 1) v0 v1 v2 v3 v4 (by omega)
  go_wp2
  refine bodyPost_ret (v:=.agg #[.int .i64 id,.int .i64 (qty * price),.int .i64 0,.int .i64 0,.bool false]) (by simp [results,Tryz.results212,go_sem, *]) rfl ⟨?_,sv3,?_,HTT.out.onBelow (hB5 _ _ _ _ _),HF3.out⟩
  ·rw [HD.out];rfl
  ·rw [HD.out];exact HS3.out.set5 (by omega) hne3
 ·have e2:¬ kind=1:=by omega
  have hcg:=charge_does HH0.out HOK.out.ok hsv hl ⟨id,item,kind,qty,price,ofI,day⟩ e1 (by simp only;omega)
  unfold evV at hcg
  simp only at hcg
  have q1:=HE.out.c1
  have q5:=HE.out.c5
  have q6:=HE.out.c6
  simp only at q1 q5 q6
  clear x1 x2 x3
  have HK:Hid (kind=2):=e1
  clear e1
  have e1':(kind == 1)=false:=by simpa using e2
  have e1:(kind == 2)=true:=by simpa using HK.out
  go_wp2_with fail
  refine hcg.mono ?_
  rintro r0 w3 ⟨rfl,sv3,S3,T3,F3⟩
  have LB:LineBox w3 (w.heap.size + 1):=HR.out.same (T3.block _ (by omega) (by omega) hne1)
  have r0:=(LB 0 (by omega)).1
  have r1:=(LB 1 (by omega)).1
  have r2:=(LB 2 (by omega)).1
  have r3:=(LB 3 (by omega)).1
  have r4:=(LB 4 (by omega)).1
  have z0:=(LB 0 (by omega)).2
  have z1:=(LB 1 (by omega)).2
  have z2:=(LB 2 (by omega)).2
  have z3:=(LB 3 (by omega)).2
  have z4:=(LB 4 (by omega)).2
  simp at r0 r1 r2 r3 r4
  have HS3:Hid (StkAt w3 pb sv3 _):=S3
  have HTT:Hid (Turned w w3 pb sv):=(Turned.of_below hB0).trans T3 (Fresh.refl _ _)
  have HF3:Hid (Fresh w sv sv3):=F3.grow hB0.size
  have hne3:sv3.ownBlock ≠ some (w.heap.size + 1):=fun e=>by
   rcases F3 _ e with x | x
   ·exact hne1 x
   ·omega
  have hB5:=fun v0 v1 v2 v3 v4=>box5 w3 w.heap.size (w.heap.size + 1) v0 v1 v2 v3 v4 (by omega)
  clear S3 T3 F3 LB hcg q0 q1 q2 q3 q4 q5 q6 p1 pf1
  generalize hY:(doE s ⟨id,item,kind,qty,price,ofI,day⟩).2=Y
  obtain ⟨y0,y1,y2,y3,y4⟩:=Y
  have HY:Hid ((doE s ⟨id,item,kind,qty,price,ofI,day⟩).2=⟨y0,y1,y2,y3,y4⟩):=hY
  clear hY
  simp only [linC]
  go_wp2
  refine bodyPost_ret (v:=.agg #[.int .i64 y0,.int .i64 y1,.int .i64 y2,.int .i64 y3,.bool y4]) (by simp [results,Tryz.results212,go_sem, *]) rfl ⟨by rw [HY.out];rfl,sv3,?_,HTT.out.onBelow (hB5 _ _ _ _ _),HF3.out⟩
  exact HS3.out.set5 (by omega) hne3
 ·have e2:¬ kind=1:=by omega
  have e3:¬ kind=2:=by omega
  have HD:Hid (doE s ⟨id,item,kind,qty,price,ofI,day⟩=(⟨(tk s.ys qty).1,s.price⟩,⟨id,(tk s.ys qty).2.1,(tk s.ys qty).2.2,0,false⟩)):=by
   show _=_
   unfold doE;rw [if_neg e2,if_neg e3,if_pos e1]
  have HK:Hid (kind=3):=e1
  clear e1 x2 x3
  have e1':(kind == 1)=false:=by simpa using e2
  have e2':(kind == 2)=false:=by simpa using e3
  have e3':(kind == 3)=true:=by simpa using HK.out
  go_wp2_with fail
  refine (take_does HH0.out HOK.out.ok (by omega) qty (by omega) (by omega)).mono ?_
  rintro r0 w3 ⟨rfl,sv3,S3,T3,F3⟩
  have LB:LineBox w3 (w.heap.size + 1):=HR.out.same (T3.block _ (by omega) (by omega) hne1)
  have g0:=(World.cell?_of_block (a:=⟨w.heap.size,0,none⟩) (T3.block w.heap.size (by omega) (by omega) hne0)).trans q0
  have r0:=(LB 0 (by omega)).1
  have r1:=(LB 1 (by omega)).1
  have r2:=(LB 2 (by omega)).1
  have r3:=(LB 3 (by omega)).1
  have r4:=(LB 4 (by omega)).1
  have z0:=(LB 0 (by omega)).2
  have z1:=(LB 1 (by omega)).2
  have z2:=(LB 2 (by omega)).2
  have z3:=(LB 3 (by omega)).2
  have z4:=(LB 4 (by omega)).2
  simp at r0 r1 r2 r3 r4
  have HS3:Hid (StkAt w3 pb sv3 _):=S3
  have HTT:Hid (Turned w w3 pb sv):=(Turned.of_below hB0).trans T3 (Fresh.refl _ _)
  have HF3:Hid (Fresh w sv sv3):=F3.grow hB0.size
  have hne3:sv3.ownBlock ≠ some (w.heap.size + 1):=fun e=>by
   rcases F3 _ e with x | x
   ·exact hne1 x
   ·omega
  have hB5:=fun v0 v1 v2 v3 v4=>box5 w3 w.heap.size (w.heap.size + 1) v0 v1 v2 v3 v4 (by omega)
  clear S3 T3 F3 LB q0 q2 q3 q4 p1 pf1
  generalize (tk s.ys qty).2.1=tv at HD ⊢
  generalize (tk s.ys qty).2.2=tm at HD ⊢
  go_wp2
  refine bodyPost_ret (v:=.agg #[.int .i64 id,.int .i64 tv,.int .i64 tm,.int .i64 0,.bool false]) (by simp [results,Tryz.results212,go_sem, *]) rfl ⟨?_,sv3,?_,HTT.out.onBelow (hB5 _ _ _ _ _),HF3.out⟩
  ·rw [HD.out];rfl
  ·rw [HD.out];exact HS3.out.set5 (by omega) hne3
 ·have e2:¬ kind=1:=by omega
  have e3:¬ kind=2:=by omega
  have e4:¬ kind=3:=by omega
  have hcg:=count_does HH0.out HOK.out hn ⟨id,item,kind,qty,price,ofI,day⟩ e1 (by simp only;omega)
  unfold evV at hcg
  simp only at hcg
  have q1:=HE.out.c1
  have q5:=HE.out.c5
  have q6:=HE.out.c6
  simp only at q1 q5 q6
  clear e1 x1 x2 x3
  have e1':(kind == 1)=false:=by simpa using e2
  have e2':(kind == 2)=false:=by simpa using e3
  have e3':(kind == 3)=false:=by simpa using e4
  go_wp2_with fail
  refine hcg.mono ?_
  rintro r0 w3 ⟨rfl,sv3,S3,T3,F3⟩
  have LB:LineBox w3 (w.heap.size + 1):=HR.out.same (T3.block _ (by omega) (by omega) hne1)
  have r0:=(LB 0 (by omega)).1
  have r1:=(LB 1 (by omega)).1
  have r2:=(LB 2 (by omega)).1
  have r3:=(LB 3 (by omega)).1
  have r4:=(LB 4 (by omega)).1
  have z0:=(LB 0 (by omega)).2
  have z1:=(LB 1 (by omega)).2
  have z2:=(LB 2 (by omega)).2
  have z3:=(LB 3 (by omega)).2
  have z4:=(LB 4 (by omega)).2
  simp at r0 r1 r2 r3 r4
  have HS3:Hid (StkAt w3 pb sv3 _):=S3
  have HTT:Hid (Turned w w3 pb sv):=(Turned.of_below hB0).trans T3 (Fresh.refl _ _)
  have HF3:Hid (Fresh w sv sv3):=F3.grow hB0.size
  have hne3:sv3.ownBlock ≠ some (w.heap.size + 1):=fun e=>by
   rcases F3 _ e with x | x
   ·exact hne1 x
   ·omega
  have hB5:=fun v0 v1 v2 v3 v4=>box5 w3 w.heap.size (w.heap.size + 1) v0 v1 v2 v3 v4 (by omega)
  clear S3 T3 F3 LB hcg q0 q1 q2 q3 q4 q5 q6 p1 pf1
  generalize hY:(doE s ⟨id,item,kind,qty,price,ofI,day⟩).2=Y
  obtain ⟨y0,y1,y2,y3,y4⟩:=Y
  have HY:Hid ((doE s ⟨id,item,kind,qty,price,ofI,day⟩).2=⟨y0,y1,y2,y3,y4⟩):=hY
  clear hY
  simp only [linC]
  go_wp2
  refine bodyPost_ret (v:=.agg #[.int .i64 y0,.int .i64 y1,.int .i64 y2,.int .i64 y3,.bool y4]) (by simp [results,Tryz.results212,go_sem, *]) rfl ⟨by rw [HY.out];rfl,sv3,?_,HTT.out.onBelow (hB5 _ _ _ _ _),HF3.out⟩
  exact HS3.out.set5 (by omega) hne3
end Go.Proofs.YtbleojodidbhiaaGreatDoor
