/-  -/
import Derived.Test.YtbleojodidbhiaaGreatDoorBnQb
import Derived.Test.YtbleojodidbhiaaGreatDoorBnDm
import Derived.Test.YtbleojodidbhiaaGreatDoorBnEv
import Derived.Test.YtbleojodidbhiaaGreatDoorBnAt
import Derived.Test.YtbleojodidbhiaaGreatDoorBnT
set_option linter.unusedVariables false
namespace Go.Proofs.YtbleojodidbhiaaGreatDoor
open Go.RowKit
set_option maxRecDepth 20000 in
set_option maxHeartbeats 4000000 in
theorem dhistory_any {w:World} {B cb ph:Nat} {sv cv:Value} {h:Hs} (a:DkAt w B cb ph sv cv h) (ho:HsOk h) (hn:h.ls.length≤10000) (hg:GroundD B w) (ws:List (List UInt8)) (v:Value) (hw:WsAt w v ws) (hl:ws.length≤100000) (hj:(joinB ws).length≤100000) :
  Calls Tryz.prog 77 #[.pointer (some ⟨cb,0,none⟩),v] w (DkP w B cb ph sv cv (historyA h ws)):=by
 have hz:∀ t ∈ ws,t.length≤100000:=fun t ht=>Nat.le_trans (mem_join ht) hj
 clear hl hj
 by_cases hk:ws.length=1
 rotate_left
 ·have e:historyA h ws=anE h 3:=by
   unfold historyA
   split
   ·exact absurd rfl hk
   ·rfl
  rw [e]
  obtain ⟨ad,cap,rfl,-,-⟩:=hw
  have hC:=dcount_bad ad ws.length cap 1 w (by omega)
  unfold thr at hC
  have HP:=hidE (fun W' (hb:Below w.heap.size w W')=>DkP.err (c:=3) a hb (by decide))
  clear a ho hg e hz hn
  go_enter Tryz.func77,Tryz.ntmps77
  go_wp2_with fail
  refine hC.mono ?_
  rintro x w1 ⟨rfl,hw1⟩
  subst w1
  clear hC
  go_wp2
  exact ⟨rfl,HP.out _ (Below.refl _ _)⟩
 obtain ⟨t0,rfl⟩:∃ t0,ws=[t0]:=by
  match ws,hk with
  | [x],_=>exact ⟨x,rfl⟩
 obtain ⟨ad,cap,rfl,-,hx | ⟨bk,o,rfl,lt,c⟩⟩:=hw
 ·cases hx
 have c0:w.cell? ⟨bk,o + 0,none⟩=some (.string (ba t0)):=c 0 t0 rfl
 have z0:(ba t0).size≤100000:=by rw [ba_size];exact hz t0 (by simp)
 clear c hz
 rw [Nat.add_zero] at c0
 have hC:=dcount_ok (some ⟨bk,o,none⟩) 1 cap 1 w rfl
 rcases hm1:numO t0 with _ | u
 ·have e:historyA h [t0]=anE h 3:=by unfold historyA;simp only [hm1]
  rw [e]
  have HP:=hidE (fun W' (hb:Below w.heap.size w W')=>DkP.err (c:=3) a hb (by decide))
  obtain ⟨W0,hW0⟩:∃ W,W=w.drew:=⟨_,rfl⟩
  have hb0:Below w.heap.size w W0:=by rw [hW0];exact below_drew _
  have hU:=up_ne
  have hA:=anyW_ne
  have d0:W0.cell? ⟨bk,o,none⟩=some (.string (ba t0)):=(hb0.cell (p:=⟨bk,o,none⟩) lt).trans c0
  have f0:=fun n:Up W0=>n.cell d0
  have dc:=(a.below hb0).cc
  have fc:=fun n:Up W0=>n.cell dc
  have HG0:=hidE (hg.below hb0)
  have HB0:=hidE hb0
  have HW0:=hidE hW0
  clear hb0 hW0 d0 dc
  have hN:=dnum_bad (ba t0) W0 HG0.out.glob.h.ev.num (by omega) (by rw [ba_data];exact hm1)
  unfold thr at hN
  clear a ho hg hk hn e hm1
  go_enter Tryz.func77,Tryz.ntmps77
  go_wp2_with fail
  refine hC.mono ?_
  rintro x w1 ⟨rfl,hw1⟩
  subst w1
  clear hC
  go_wp2_with fail
  refine wp_region_stop (fun ch ds W'=>ds=[]∧DkP w B cb ph sv cv (anE h 3) (.panicked ch) W') [(.pure,0),(.pure,1),(.pure,2),(.read,3),(.pure,4),(.pure,5),(.pure,6),(.pure,7),(.read,8),(.pure,12),(.stop,9)] (by kernel_rfl) (by kernel_rfl) (fun ch a w hx=>⟨hx.1,hx.2⟩) ?_
  rw [← HW0.out]
  repeat ((first | refine stop_p rfl ?_ | refine stop_q rfl ?_);go_big_quiet_step (fail);refine wpQuiet_nil ?_)
  refine stop_x rfl rfl ?_
  go_wp2_with fail
  refine hN.mono ?_
  rintro x w2 ⟨rfl,hb2⟩
  exact ⟨rfl,HP.out _ (HB0.out.trans (hb2.mono HB0.out.size))⟩
 ·have e:historyA h [t0]=⟨historyT h u,0,h⟩:=by unfold historyA;simp only [hm1]
  rw [e]
  have HP:=hidE (fun W' (hb:Below w.heap.size w W')=>DkP.same (t:=historyT h u) a hb)
  obtain ⟨W0,hW0⟩:∃ W,W=w.drew:=⟨_,rfl⟩
  have hb0:Below w.heap.size w W0:=by rw [hW0];exact below_drew _
  have hU:=up_ne
  have hA:=anyW_ne
  have d0:W0.cell? ⟨bk,o,none⟩=some (.string (ba t0)):=(hb0.cell (p:=⟨bk,o,none⟩) lt).trans c0
  have f0:=fun n:Up W0=>n.cell d0
  have dc:=(a.below hb0).cc
  have fc:=fun n:Up W0=>n.cell dc
  have HG0:=hidE (hg.below hb0)
  have HB0:=hidE hb0
  have HW0:=hidE hW0
  clear hb0 hW0 d0 dc
  have hN:=dnum_ok (ba t0) u W0 HG0.out.glob.h.ev.num (by omega) (by rw [ba_data];exact hm1)
  have HA:=hidE a
  have HO:=hidE ho
  have HN:=hidE hn
  clear a ho hg hk hn e hm1
  go_enter Tryz.func77,Tryz.ntmps77
  go_wp2_with fail
  refine hC.mono ?_
  rintro x w1 ⟨rfl,hw1⟩
  subst w1
  clear hC
  go_wp2_with fail
  refine wp_region_stop (fun _ _ _=>False) [(.pure,0),(.pure,1),(.pure,2),(.read,3),(.pure,4),(.pure,5),(.pure,6),(.pure,7),(.read,8),(.pure,12),(.make,9),(.make,10),(.make,11)] (by kernel_rfl) (by kernel_rfl) (fun ch a w hx=>False.elim hx) ?_
  rw [← HW0.out]
  repeat ((first | refine stop_p rfl ?_ | refine stop_q rfl ?_);go_big_quiet_step (fail);refine wpQuiet_nil ?_)
  refine stop_n rfl ?_
  go_wp2_with fail
  refine hN.mono ?_
  rintro x w2 ⟨rfl,hb2⟩
  have HB2:Hid (Below w.heap.size w w2):=HB0.out.trans (hb2.mono HB0.out.size)
  go_wp2_with fail
  refine ⟨rfl,hb2,?_⟩
  have hAW:=HA.out.below HB2.out
  have hAt:=hist_any hAW.hs.bk (by have:=HO.out.inv.full;omega) u
  refine stop_n rfl ?_
  go_wp2_with fail
  refine hAt.mono ?_
  rintro x w5 ⟨v1,rfl,hown,hb5⟩
  obtain ⟨ad1,cp1,hv1⟩:=own_lenN hown
  subst hv1
  go_wp2_with fail
  refine ⟨rfl,hb5,?_⟩
  refine stop_n rfl ?_
  go_wp2_with fail
  refine ⟨rfl,Below.refl _ _,?_⟩
  refine stop_nil ?_
  have HO5:=hidE hown
  have HB5:Hid (Below w.heap.size w w5):=HB2.out.trans (hb5.mono HB2.out.size)
  have HGN:Hid (GroundD B w5):=(HG0.out.below hb2).below hb5
  clear hN f0 fc c0 hAt hAW hown
  obtain ⟨ks,hks⟩:∃ l,l=h.bk.vs.filter (isH u):=⟨_,rfl⟩
  rw [← hks] at HO5 ⊢
  have HKS:=hidE hks
  have hkl:ks.length≤1000:=by
   rw [hks]
   have h1:=List.length_filter_le (isH u) h.bk.vs
   have:=HO.out.inv.full
   omega
  obtain ⟨f,hf⟩:∃ f,f=turnsT:=⟨_,rfl⟩
  have HF:=hidE hf
  have HBD:Hid (∀ v ∈ ks,I64 v.fr∧I64 v.to):=fun v hv=>by
   rw [hks] at hv
   have hm:=(List.mem_filter.1 hv).1
   have h1:=HO.out.inv.fr v hm
   have h2:=HO.out.inv.to v hm
   have h3:=HO.out.n
   have h4:=HN.out
   refine ⟨⟨by omega,by omega⟩,⟨?_,?_⟩⟩
   ·rcases h2 with h2 | h2 <;> omega
   ·rcases h2 with h2 | h2 <;> omega
  have HFL:Hid (∀ v ∈ ks,(f v).length≤100):=fun v hv=>by
   rw [hf]
   have h1:=HBD.out v hv
   have e1:=Lib.itoa_length_le v.fr h1.1.1 h1.1.2
   have e2:=Lib.itoa_length_le v.to h1.2.1 h1.2.2
   simp only [turnsT,List.length_cons,List.length_append]
   omega
  have HFIN:Hid (ba (dHistory ++ ks.flatMap f)=ba (historyT h u)):=by
   show _=_
   rw [hf,hks]
   rfl
  clear hf hks
  go_wp2
  go_loopw [5,22] (fun s i wr=>∃ k:Nat,k≤ks.length∧i = .int .i64 k∧s = .string (ba (dHistory ++ (ks.take k).flatMap f))∧Hid (Below w5.heap.size w5 wr)) (fun _ i _=>ks.length - (intOf i).toNat)
  case atStart=>exact ⟨0,Nat.zero_le _,rfl,rfl,Below.refl _ _⟩
  case round=>
   obtain ⟨k,hk,rfl,rfl,HB⟩:=hrel
   by_cases hlt:k < ks.length
   ·rcases own_form HO5.out with ⟨_,e2,_⟩ | ⟨g,cp,e1,hgB,hgl,_⟩
    ·rw [e2] at hlt;exact absurd hlt (Nat.not_lt_zero _)
    ·simp only [Value.slice.injEq] at e1
     obtain ⟨rfl,_,rfl⟩:=e1
     obtain ⟨x,hx⟩:∃ x,x=ks[k]:=⟨_,rfl⟩
     have q0:=(HB.out.cell (p:=⟨g,k * 9 + 0,none⟩) hgl).trans (own_cell (m:=9) (fun _=>rfl) HO5.out k 0 hlt (by omega)).1
     have q1:=(HB.out.cell (p:=⟨g,k * 9 + 1,none⟩) hgl).trans (own_cell (m:=9) (fun _=>rfl) HO5.out k 1 hlt (by omega)).1
     have q2:=(HB.out.cell (p:=⟨g,k * 9 + 2,none⟩) hgl).trans (own_cell (m:=9) (fun _=>rfl) HO5.out k 2 hlt (by omega)).1
     have q3:=(HB.out.cell (p:=⟨g,k * 9 + 3,none⟩) hgl).trans (own_cell (m:=9) (fun _=>rfl) HO5.out k 3 hlt (by omega)).1
     have q4:=(HB.out.cell (p:=⟨g,k * 9 + 4,none⟩) hgl).trans (own_cell (m:=9) (fun _=>rfl) HO5.out k 4 hlt (by omega)).1
     have q5:=(HB.out.cell (p:=⟨g,k * 9 + 5,none⟩) hgl).trans (own_cell (m:=9) (fun _=>rfl) HO5.out k 5 hlt (by omega)).1
     have q6:=(HB.out.cell (p:=⟨g,k * 9 + 6,none⟩) hgl).trans (own_cell (m:=9) (fun _=>rfl) HO5.out k 6 hlt (by omega)).1
     have q7:=(HB.out.cell (p:=⟨g,k * 9 + 7,none⟩) hgl).trans (own_cell (m:=9) (fun _=>rfl) HO5.out k 7 hlt (by omega)).1
     have q8:=(HB.out.cell (p:=⟨g,k * 9 + 8,none⟩) hgl).trans (own_cell (m:=9) (fun _=>rfl) HO5.out k 8 hlt (by omega)).1
     rw [← hx] at q0 q1 q2 q3 q4 q5 q6 q7 q8
     simp only [vrC,List.getElem?_cons_zero,List.getElem?_cons_succ,Nat.add_zero] at q0 q1 q2 q3 q4 q5 q6 q7 q8
     have hxm:x ∈ ks:=by rw [hx];exact List.getElem_mem hlt
     have HS:Hid (ba (dHistory ++ (ks.take k).flatMap f) ++ ba (f x)=ba (dHistory ++ (ks.take (k + 1)).flatMap f)):=by
      show _=_
      rw [flat_snoc f hlt,← hx]
      apply dba_ext
      simp [ba_data]
     have za:(ba (f x)).size≤100:=by rw [ba_size];exact HFL.out x hxm
     have zs:(ba (dHistory ++ (ks.take k).flatMap f)).size≤10000000:=by
      rw [ba_size,List.length_append]
      have h1:=flatB_len f 100 (ks.take k) (fun y hy=>HFL.out y (List.mem_of_mem_take hy))
      rw [List.length_take] at h1
      have h2:(dHistory:List UInt8).length≤10:=by decide
      have h3:min k ks.length≤1000:=by omega
      omega
     obtain ⟨s0,hs0⟩:∃ s,s=ba (dHistory ++ (ks.take k).flatMap f):=⟨_,rfl⟩
     rw [← hs0] at HS zs ⊢
     clear hs0
     have hbd:=HBD.out x hxm
     have hT:=fun W hW=>dturns_any x W hW hbd.1 hbd.2
     have hba:Below w5.heap.size w5 (wr.alloc (.cells #[.int .i64 x.ev.id,.string x.ev.item,.int .i64 x.ev.kind,.int .i64 x.ev.qty,.int .i64 x.ev.price,.int .i64 x.ev.ofI,.int .i64 x.ev.day,.int .i64 x.fr,.int .i64 x.to] 95)):=HB.out.alloc HB.out.size _
     rw [show turnsT x=f x by rw [HF.out]] at hT
     obtain ⟨s1,hs1⟩:∃ s,s=ba (f x):=⟨_,rfl⟩
     rw [← hs1] at HS za hT
     obtain ⟨⟨id2,item,kind,qty,price,ofI,day⟩,fr,tq⟩:=x
     unfold vrV at hT
     simp only at q0 q1 q2 q3 q4 q5 q6 q7 q8 hT hba
     have HTT:=hidE hT
     clear hT hs1 hx hbd hxm
     go_wp2_with fail
     refine (HTT.out _ (HGN.out.below hba).glob.h.ev.num).mono ?_
     rintro y w6 ⟨rfl,hb6⟩
     have HB6:Hid (Below w5.heap.size w5 w6):=hba.trans (hb6.mono hba.size)
     clear hba hb6
     go_wp2
     go_roundw
     case rel=>exact ⟨k + 1,by omega,by go_num,by rw [HS.out],HB6⟩
     case measure=>simp [intOf];omega
   ·have HE:Hid (ks.take k=ks):=by show _=_;rw [show k=ks.length by omega,List.take_length]
    have hnn:¬ (k:Int) < (ks.length:Int):=by omega
    have HBF:Hid (Below w.heap.size w wr):=HB5.out.trans (HB.out.mono HB5.out.size)
    rw [HE.out,HFIN.out]
    clear hlt hk
    go_wp2
    go_ret
    exact HP.out _ HBF.out
theorem ET_len {e:Ev} (h:Rt e):(ET e).length≤150:=by
 have h1:=nums_size h.2.2
 have h2:=word_size e.kind
 have h3:=name_size h.1
 have h4:=DT_size e.day
 have e1:(eb (nums e.kind e.qty e.price e.ofI)).size=(nums e.kind e.qty e.price e.ofI).length:=by simp [eb,ByteArray.size]
 have e2:(eb (wordOf e.kind)).size=(wordOf e.kind).length:=by simp [eb,ByteArray.size]
 have e3:e.item.data.toList.length=e.item.size:=by simp
 have e4:(bts (DT e.day)).length=(strOfNums (DT e.day)).size:=by rw [← DT_data];simp
 simp only [ET,List.length_append,List.length_cons]
 omega
set_option maxRecDepth 20000 in
set_option maxHeartbeats 4000000 in
theorem devents_any {w:World} {B cb ph:Nat} {sv cv:Value} {h:Hs} (a:DkAt w B cb ph sv cv h) (ho:HsOk h) (hn:h.ls.length≤10000) (hg:GroundD B w) (ws:List (List UInt8)) (v:Value) (hw:WsAt w v ws) (hl:ws.length≤100000) (hj:(joinB ws).length≤100000) :
  Calls Tryz.prog 75 #[.pointer (some ⟨cb,0,none⟩),v] w (DkP w B cb ph sv cv (eventsA h ws)):=by
 have hz:∀ t ∈ ws,t.length≤100000:=fun t ht=>Nat.le_trans (mem_join ht) hj
 clear hl hj
 by_cases hk:ws.length=1
 rotate_left
 ·have e:eventsA h ws=anE h 3:=by
   unfold eventsA
   split
   ·exact absurd rfl hk
   ·rfl
  rw [e]
  obtain ⟨ad,cap,rfl,-,-⟩:=hw
  have hC:=dcount_bad ad ws.length cap 1 w (by omega)
  unfold thr at hC
  have HP:=hidE (fun W' (hb:Below w.heap.size w W')=>DkP.err (c:=3) a hb (by decide))
  clear a ho hg e hz hn
  go_enter Tryz.func75,Tryz.ntmps75
  go_wp2_with fail
  refine hC.mono ?_
  rintro x w1 ⟨rfl,hw1⟩
  subst w1
  clear hC
  go_wp2
  exact ⟨rfl,HP.out _ (Below.refl _ _)⟩
 obtain ⟨t0,rfl⟩:∃ t0,ws=[t0]:=by
  match ws,hk with
  | [x],_=>exact ⟨x,rfl⟩
 obtain ⟨ad,cap,rfl,-,hx | ⟨bk,o,rfl,lt,c⟩⟩:=hw
 ·cases hx
 have c0:w.cell? ⟨bk,o + 0,none⟩=some (.string (ba t0)):=c 0 t0 rfl
 have z0:(ba t0).size≤100000:=by rw [ba_size];exact hz t0 (by simp)
 clear c hz
 rw [Nat.add_zero] at c0
 have hC:=dcount_ok (some ⟨bk,o,none⟩) 1 cap 1 w rfl
 rcases hm1:numO t0 with _ | u
 ·have e:eventsA h [t0]=anE h 3:=by unfold eventsA;simp only [hm1]
  rw [e]
  have HP:=hidE (fun W' (hb:Below w.heap.size w W')=>DkP.err (c:=3) a hb (by decide))
  obtain ⟨W0,hW0⟩:∃ W,W=w.drew:=⟨_,rfl⟩
  have hb0:Below w.heap.size w W0:=by rw [hW0];exact below_drew _
  have hU:=up_ne
  have hA:=anyW_ne
  have d0:W0.cell? ⟨bk,o,none⟩=some (.string (ba t0)):=(hb0.cell (p:=⟨bk,o,none⟩) lt).trans c0
  have f0:=fun n:Up W0=>n.cell d0
  have dc:=(a.below hb0).cc
  have fc:=fun n:Up W0=>n.cell dc
  have HG0:=hidE (hg.below hb0)
  have HB0:=hidE hb0
  have HW0:=hidE hW0
  clear hb0 hW0 d0 dc
  have hN:=dnum_bad (ba t0) W0 HG0.out.glob.h.ev.num (by omega) (by rw [ba_data];exact hm1)
  unfold thr at hN
  clear a ho hg hk hn e hm1
  go_enter Tryz.func75,Tryz.ntmps75
  go_wp2_with fail
  refine hC.mono ?_
  rintro x w1 ⟨rfl,hw1⟩
  subst w1
  clear hC
  go_wp2_with fail
  refine wp_region_stop (fun ch ds W'=>ds=[]∧DkP w B cb ph sv cv (anE h 3) (.panicked ch) W') [(.pure,0),(.pure,1),(.pure,2),(.read,3),(.pure,4),(.pure,5),(.pure,6),(.pure,7),(.read,8),(.pure,12),(.stop,9)] (by kernel_rfl) (by kernel_rfl) (fun ch a w hx=>⟨hx.1,hx.2⟩) ?_
  rw [← HW0.out]
  repeat ((first | refine stop_p rfl ?_ | refine stop_q rfl ?_);go_big_quiet_step (fail);refine wpQuiet_nil ?_)
  refine stop_x rfl rfl ?_
  go_wp2_with fail
  refine hN.mono ?_
  rintro x w2 ⟨rfl,hb2⟩
  exact ⟨rfl,HP.out _ (HB0.out.trans (hb2.mono HB0.out.size))⟩
 ·have e:eventsA h [t0]=⟨eventsT h u,0,h⟩:=by unfold eventsA;simp only [hm1]
  rw [e]
  have HP:=hidE (fun W' (hb:Below w.heap.size w W')=>DkP.same (t:=eventsT h u) a hb)
  obtain ⟨W0,hW0⟩:∃ W,W=w.drew:=⟨_,rfl⟩
  have hb0:Below w.heap.size w W0:=by rw [hW0];exact below_drew _
  have hU:=up_ne
  have hA:=anyW_ne
  have d0:W0.cell? ⟨bk,o,none⟩=some (.string (ba t0)):=(hb0.cell (p:=⟨bk,o,none⟩) lt).trans c0
  have f0:=fun n:Up W0=>n.cell d0
  have dc:=(a.below hb0).cc
  have fc:=fun n:Up W0=>n.cell dc
  have HG0:=hidE (hg.below hb0)
  have HB0:=hidE hb0
  have HW0:=hidE hW0
  clear hb0 hW0 d0 dc
  have hN:=dnum_ok (ba t0) u W0 HG0.out.glob.h.ev.num (by omega) (by rw [ba_data];exact hm1)
  have HA:=hidE a
  have HO:=hidE ho
  have HN:=hidE hn
  clear a ho hg hk hn e hm1
  go_enter Tryz.func75,Tryz.ntmps75
  go_wp2_with fail
  refine hC.mono ?_
  rintro x w1 ⟨rfl,hw1⟩
  subst w1
  clear hC
  go_wp2_with fail
  refine wp_region_stop (fun _ _ _=>False) [(.pure,0),(.pure,1),(.pure,2),(.read,3),(.pure,4),(.pure,5),(.pure,6),(.pure,7),(.read,8),(.pure,12),(.make,9),(.make,10),(.make,11)] (by kernel_rfl) (by kernel_rfl) (fun ch a w hx=>False.elim hx) ?_
  rw [← HW0.out]
  repeat ((first | refine stop_p rfl ?_ | refine stop_q rfl ?_);go_big_quiet_step (fail);refine wpQuiet_nil ?_)
  refine stop_n rfl ?_
  go_wp2_with fail
  refine hN.mono ?_
  rintro x w2 ⟨rfl,hb2⟩
  have HB2:Hid (Below w.heap.size w w2):=HB0.out.trans (hb2.mono HB0.out.size)
  go_wp2_with fail
  refine ⟨rfl,hb2,?_⟩
  have hAW:=HA.out.below HB2.out
  have hAt:=as_any hAW.hs.bk (by have:=HO.out.inv.full;omega) u
  refine stop_n rfl ?_
  go_wp2_with fail
  refine hAt.mono ?_
  rintro x w5 ⟨v1,rfl,hown,hb5⟩
  obtain ⟨ad1,cp1,hv1⟩:=own_lenN hown
  subst hv1
  go_wp2_with fail
  refine ⟨rfl,hb5,?_⟩
  refine stop_n rfl ?_
  go_wp2_with fail
  refine ⟨rfl,Below.refl _ _,?_⟩
  refine stop_nil ?_
  have HO5:=hidE hown
  have HB5:Hid (Below w.heap.size w w5):=HB2.out.trans (hb5.mono HB2.out.size)
  have HGN:Hid (GroundD B w5):=(HG0.out.below hb2).below hb5
  clear hN f0 fc c0 hAt hAW hown
  obtain ⟨ks,hks⟩:∃ l,l=srt (asOf h.bk (tOf h.bk u)):=⟨_,rfl⟩
  rw [← hks] at HO5 ⊢
  have HKS:=hidE hks
  have hkl:ks.length≤1000:=by
   rw [hks]
   rw [srt_len]
   unfold asOf
   rw [List.length_map]
   have h1:=List.length_filter_le (isAt (tOf h.bk u)) h.bk.vs
   have:=HO.out.inv.full
   omega
  obtain ⟨f,hf⟩:∃ f,f=eventT:=⟨_,rfl⟩
  have HF:=hidE hf
  have HBD:Hid (∀ e ∈ ks,Rt e∧EvW e∧I64 e.id):=fun e he=>by
   rw [hks] at he
   have h0:=as_allD HO.out.inv _ e he
   refine ⟨h0.1,h0.2,?_⟩
   obtain ⟨v,hv,rfl⟩:=List.mem_map.1 ((srt_perm _).mem_iff.1 he)
   have h1:=HO.out.inv.id v (List.mem_filter.1 hv).1
   have h2:=HO.out.inv.gn
   have h3:=HO.out.n
   have h4:=HN.out
   exact ⟨by omega,by omega⟩
  have HFL:Hid (∀ e ∈ ks,(f e).length≤200):=fun e he=>by
   rw [hf]
   have h1:=HBD.out e he
   have e1:=Lib.itoa_length_le e.id h1.2.2.1 h1.2.2.2
   have e2:=ET_len h1.1
   simp only [eventT,List.length_cons,List.length_append]
   omega
  have HFIN:Hid (ba (dEvents ++ ks.flatMap f)=ba (eventsT h u)):=by
   show _=_
   rw [hf,hks]
   rfl
  clear hf hks
  go_wp2
  go_loopw [5,24] (fun s i wr=>∃ k:Nat,k≤ks.length∧i = .int .i64 k∧s = .string (ba (dEvents ++ (ks.take k).flatMap f))∧Hid (Below w5.heap.size w5 wr)) (fun _ i _=>ks.length - (intOf i).toNat)
  case atStart=>exact ⟨0,Nat.zero_le _,rfl,rfl,Below.refl _ _⟩
  case round=>
   obtain ⟨k,hk,rfl,rfl,HB⟩:=hrel
   by_cases hlt:k < ks.length
   ·rcases own_form HO5.out with ⟨_,e2,_⟩ | ⟨g,cp,e1,hgB,hgl,_⟩
    ·rw [e2] at hlt;exact absurd hlt (Nat.not_lt_zero _)
    ·simp only [Value.slice.injEq] at e1
     obtain ⟨rfl,_,rfl⟩:=e1
     obtain ⟨x,hx⟩:∃ x,x=ks[k]:=⟨_,rfl⟩
     have q0:=(HB.out.cell (p:=⟨g,k * 7 + 0,none⟩) hgl).trans (own_cell (m:=7) (fun _=>rfl) HO5.out k 0 hlt (by omega)).1
     have q1:=(HB.out.cell (p:=⟨g,k * 7 + 1,none⟩) hgl).trans (own_cell (m:=7) (fun _=>rfl) HO5.out k 1 hlt (by omega)).1
     have q2:=(HB.out.cell (p:=⟨g,k * 7 + 2,none⟩) hgl).trans (own_cell (m:=7) (fun _=>rfl) HO5.out k 2 hlt (by omega)).1
     have q3:=(HB.out.cell (p:=⟨g,k * 7 + 3,none⟩) hgl).trans (own_cell (m:=7) (fun _=>rfl) HO5.out k 3 hlt (by omega)).1
     have q4:=(HB.out.cell (p:=⟨g,k * 7 + 4,none⟩) hgl).trans (own_cell (m:=7) (fun _=>rfl) HO5.out k 4 hlt (by omega)).1
     have q5:=(HB.out.cell (p:=⟨g,k * 7 + 5,none⟩) hgl).trans (own_cell (m:=7) (fun _=>rfl) HO5.out k 5 hlt (by omega)).1
     have q6:=(HB.out.cell (p:=⟨g,k * 7 + 6,none⟩) hgl).trans (own_cell (m:=7) (fun _=>rfl) HO5.out k 6 hlt (by omega)).1
     rw [← hx] at q0 q1 q2 q3 q4 q5 q6
     simp only [evC,List.getElem?_cons_zero,List.getElem?_cons_succ,Nat.add_zero] at q0 q1 q2 q3 q4 q5 q6
     have hxm:x ∈ ks:=by rw [hx];exact List.getElem_mem hlt
     have HS:Hid (ba (dEvents ++ (ks.take k).flatMap f) ++ ba (f x)=ba (dEvents ++ (ks.take (k + 1)).flatMap f)):=by
      show _=_
      rw [flat_snoc f hlt,← hx]
      apply dba_ext
      simp [ba_data]
     have za:(ba (f x)).size≤200:=by rw [ba_size];exact HFL.out x hxm
     have zs:(ba (dEvents ++ (ks.take k).flatMap f)).size≤10000000:=by
      rw [ba_size,List.length_append]
      have h1:=flatB_len f 200 (ks.take k) (fun y hy=>HFL.out y (List.mem_of_mem_take hy))
      rw [List.length_take] at h1
      have h2:(dEvents:List UInt8).length≤10:=by decide
      have h3:min k ks.length≤1000:=by omega
      omega
     obtain ⟨s0,hs0⟩:∃ s,s=ba (dEvents ++ (ks.take k).flatMap f):=⟨_,rfl⟩
     rw [← hs0] at HS zs ⊢
     clear hs0
     have hbd:=HBD.out x hxm
     have hba:Below w5.heap.size w5 (wr.alloc (.cells #[.int .i64 x.id,.string x.item,.int .i64 x.kind,.int .i64 x.qty,.int .i64 x.price,.int .i64 x.ofI,.int .i64 x.day] 93)):=HB.out.alloc HB.out.size _
     have hPr:=fun W hW=>eprint_ok x W hW hbd.2.1 hbd.1
     have hIt:=fun W hW=>itoaN x.id W hW hbd.2.2.1 hbd.2.2.2
     have zi:=itoaZ x.id hbd.2.2.1 hbd.2.2.2
     have zt:(eb (ET x)).size≤150:=by
      have:=ET_len hbd.1
      simpa [eb,ByteArray.size] using this
     have HS2:Hid ((⟨#[32,124,32]⟩:ByteArray) ++ eb (Lib.itoa x.id) ++ ⟨#[32]⟩ ++ eb (ET x)=ba (f x)):=by
      show _=_
      rw [HF.out]
      apply dba_ext
      simp [eventT,ba_data,eb_list]
     obtain ⟨s1,hs1⟩:∃ s,s=ba (f x):=⟨_,rfl⟩
     obtain ⟨s2,hs2⟩:∃ s,s=eb (ET x):=⟨_,rfl⟩
     obtain ⟨s3,hs3⟩:∃ s,s=eb (Lib.itoa x.id):=⟨_,rfl⟩
     rw [← hs1] at HS za HS2
     rw [← hs2] at hPr zt HS2
     rw [← hs3] at hIt zi HS2
     obtain ⟨id2,item,kind,qty,price,ofI,day⟩:=x
     unfold evV at hPr
     simp only at q0 q1 q2 q3 q4 q5 q6 hPr hIt hba
     have HPR:=hidE hPr
     have HIT:=hidE hIt
     obtain ⟨W1,hW1⟩:∃ W,W=wr.alloc (.cells #[.int .i64 id2,.string item,.int .i64 kind,.int .i64 qty,.int .i64 price,.int .i64 ofI,.int .i64 day] 93):=⟨_,rfl⟩
     rw [← hW1] at hba
     have g0:W1.cell? ⟨wr.heap.size,0,none⟩=some (.int .i64 id2):=by rw [hW1];simp
     have HW1:=hidE hW1
     clear hPr hIt hs1 hs2 hs3 hx hbd hxm hW1
     go_wp2_with fail
     rw [← HW1.out]
     refine (HPR.out _ (HGN.out.below hba).glob.h.ev).mono ?_
     rintro y w6 ⟨rfl,hb6⟩
     have g1:=(hb6.cell (p:=⟨wr.heap.size,0,none⟩) (World.block_lt_of_cell? _ _ g0)).trans g0
     have hbb:=hba.trans (hb6.mono hba.size)
     have hC6:=dcheck_nil w6
     clear q0 q1 q2 q3 q4 q5 q6 hba hb6 g0
     go_wp2_with fail
     refine hC6.mono ?_
     rintro y w7 ⟨rfl,hw7⟩
     subst w7
     clear hC6
     go_wp2_with fail
     refine (HIT.out w6 (HGN.out.below hbb).glob.h.ev.num).mono ?_
     rintro y w7 ⟨rfl,hb7⟩
     have HB6:Hid (Below w5.heap.size w5 w7):=hbb.trans (hb7.mono hbb.size)
     clear hbb hb7 g1
     go_wp2
     go_roundw
     case rel=>exact ⟨k + 1,by omega,by go_num,by rw [HS2.out,HS.out],HB6⟩
     case measure=>simp [intOf];omega
   ·have HE:Hid (ks.take k=ks):=by show _=_;rw [show k=ks.length by omega,List.take_length]
    have hnn:¬ (k:Int) < (ks.length:Int):=by omega
    have HBF:Hid (Below w.heap.size w wr):=HB5.out.trans (HB.out.mono HB5.out.size)
    rw [HE.out,HFIN.out]
    clear hlt hk
    go_wp2
    go_ret
    exact HP.out _ HBF.out
end Go.Proofs.YtbleojodidbhiaaGreatDoor
namespace Go.Proofs.YtbleojodidbhiaaGreatDoor
open Go.RowKit
def evD0:Ev:=⟨0,⟨#[]⟩,0,0,0,0,0⟩
def linD0:Lin:=⟨0,0,0,0,false⟩
noncomputable def movD (L:List Ev) (x:ByteArray) (k:Nat):List Value:=evC (L.getD k evD0) ++ (linC ((goL stk00 (ordd (L.take (k + 1)))).getD k linD0) ++ [.int .i64 (sumQ (goS stk00 (ordd (L.take (k + 1))) x).ys),.int .i64 (sumV (goS stk00 (ordd (L.take (k + 1))) x).ys)])
theorem movD_len (L:List Ev) (x:ByteArray) (k:Nat):(movD L x k).length=14:=rfl
theorem movD_flat {L:List Ev} {x:ByteArray} (hr:∀ e ∈ L,Rt e):(List.range L.length).flatMap (movC L x)=(List.range L.length).flatMap (movD L x):=by
 rw [List.flatMap_def,List.flatMap_def]
 congr 1
 refine List.map_congr_left fun k hk=>?_
 have hk':=List.mem_range.1 hk
 have h1:(goL stk00 (ordd (L.take (k + 1)))).length=k + 1:=by
  rw [goL_len,ordd_stl (fun e he=>hr e (List.mem_of_mem_take he)),stl_len,List.length_take]
  omega
 unfold movC movD
 rw [List.getElem?_eq_getElem hk',List.getElem?_eq_getElem (by omega),List.getD_eq_getElem?_getD,List.getD_eq_getElem?_getD,List.getElem?_eq_getElem hk',List.getElem?_eq_getElem (by omega)]
 simp
end Go.Proofs.YtbleojodidbhiaaGreatDoor
set_option linter.unusedVariables false
namespace Go.Proofs.YtbleojodidbhiaaGreatDoor
open Go.RowKit
theorem fig_len {F:Fig} (h:F.ok):(figT F).length≤130:=by
 rw [← fig_is]
 refine figP_len _ fun n hn=>?_
 simp only [fig5,List.mem_cons,List.not_mem_nil,or_false] at hn
 rcases hn with rfl | rfl | rfl | rfl | rfl
 ·exact h.inn
 ·exact h.out
 ·exact h.loss
 ·exact h.gain
 ·exact h.late
set_option maxRecDepth 20000 in
set_option maxHeartbeats 4000000 in
theorem dclosed_any {w:World} {B cb ph:Nat} {sv cv:Value} {h:Hs} (a:DkAt w B cb ph sv cv h) (ho:HsOk h) (hn:h.ls.length≤10000) (hg:GroundD B w) (ws:List (List UInt8)) (v:Value) (hw:WsAt w v ws) (hl:ws.length≤100000) (hj:(joinB ws).length≤100000) (hxx:HsX h) :
  Calls Tryz.prog 72 #[.pointer (some ⟨cb,0,none⟩),v] w (DkP w B cb ph sv cv (closedA h ws)):=by
 have hz:∀ t ∈ ws,t.length≤100000:=fun t ht=>Nat.le_trans (mem_join ht) hj
 clear hl hj
 by_cases hk:ws.length=0
 rotate_left
 ·have e:closedA h ws=anE h 3:=by
   unfold closedA
   split
   ·exact absurd rfl hk
   ·rfl
  rw [e]
  obtain ⟨ad,cap,rfl,-,-⟩:=hw
  have hC:=dcount_bad ad ws.length cap 0 w (by omega)
  unfold thr at hC
  have HP:=hidE (fun W' (hb:Below w.heap.size w W')=>DkP.err (c:=3) a hb (by decide))
  clear a ho hg e hz hn
  go_enter Tryz.func72,Tryz.ntmps72
  go_wp2_with fail
  refine hC.mono ?_
  rintro x w1 ⟨rfl,hw1⟩
  subst w1
  clear hC
  go_wp2
  exact ⟨rfl,HP.out _ (Below.refl _ _)⟩
 obtain rfl:ws=[]:=List.eq_nil_of_length_eq_zero hk
 obtain ⟨ad,cap,rfl,-,-⟩:=hw
 have hC:=dcount_ok ad 0 cap 0 w rfl
 ·have HP:=hidE (fun W' (hb:Below w.heap.size w W')=>DkP.same (t:=closedT h) a hb)
  show Calls _ _ _ _ (DkP w B cb ph sv cv ⟨closedT h,0,h⟩)
  have cc:=a.cc
  have hCl:=closed_any a.hs.pr (by have:=ho.cs;omega)
  have HO:=hidE ho
  have HG:=hidE hg
  have HX:=hidE hxx
  clear a ho hg hk hz hn hxx
  go_enter Tryz.func72,Tryz.ntmps72
  go_wp2_with fail
  refine hC.mono ?_
  rintro x w1 ⟨rfl,hw1⟩
  subst w1
  clear hC
  go_wp2_with fail
  refine hCl.mono ?_
  rintro x w5 ⟨v1,rfl,hown,hb5⟩
  obtain ⟨ad1,cp1,hv1⟩:=own_lenN hown
  subst hv1
  have HO5:=hidE hown
  have HB5:Hid (Below w.heap.size w w5):=hb5
  have HGN:Hid (GroundD B w5):=HG.out.below hb5
  clear hCl hown
  obtain ⟨ks,hks⟩:∃ l,l=h.cs:=⟨_,rfl⟩
  rw [← hks] at HO5 ⊢
  have HKS:=hidE hks
  have hkl:ks.length≤1000:=by
   rw [hks]
   have:=HO.out.cs
   omega
  obtain ⟨f,hf⟩:∃ f,f=closingT:=⟨_,rfl⟩
  have HF:=hidE hf
  have HFL:Hid (∀ c ∈ ks,(f c).length≤400):=fun c hc=>by
   rw [hf]
   have h1:=HX.out c (by rw [← HKS.out];exact hc)
   have e1:=Lib.itoa_length_le c.month h1.2.1.1 h1.2.1.2
   have e2:=Lib.itoa_length_le c.turn h1.2.2.1 h1.2.2.2
   have e3:=fig_len h1.1
   simp only [closingT,List.length_cons,List.length_append]
   omega
  have HFIN:Hid (ba (dClosed ++ ks.flatMap f)=ba (closedT h)):=by
   show _=_
   rw [hf,hks]
   rfl
  clear hf hks
  go_wp2
  go_loopw [5,18] (fun s i wr=>∃ k:Nat,k≤ks.length∧i = .int .i64 k∧s = .string (ba (dClosed ++ (ks.take k).flatMap f))∧Hid (Below w5.heap.size w5 wr)) (fun _ i _=>ks.length - (intOf i).toNat)
  case atStart=>exact ⟨0,Nat.zero_le _,rfl,rfl,Below.refl _ _⟩
  case round=>
   obtain ⟨k,hk,rfl,rfl,HB⟩:=hrel
   by_cases hlt:k < ks.length
   ·rcases own_form HO5.out with ⟨_,e2,_⟩ | ⟨g,cp,e1,hgB,hgl,_⟩
    ·rw [e2] at hlt;exact absurd hlt (Nat.not_lt_zero _)
    ·simp only [Value.slice.injEq] at e1
     obtain ⟨rfl,_,rfl⟩:=e1
     obtain ⟨x,hx⟩:∃ x,x=ks[k]:=⟨_,rfl⟩
     have q0:=(HB.out.cell (p:=⟨g,k * 7 + 0,none⟩) hgl).trans (own_cell (m:=7) (fun _=>rfl) HO5.out k 0 hlt (by omega)).1
     have q1:=(HB.out.cell (p:=⟨g,k * 7 + 1,none⟩) hgl).trans (own_cell (m:=7) (fun _=>rfl) HO5.out k 1 hlt (by omega)).1
     have q2:=(HB.out.cell (p:=⟨g,k * 7 + 2,none⟩) hgl).trans (own_cell (m:=7) (fun _=>rfl) HO5.out k 2 hlt (by omega)).1
     have q3:=(HB.out.cell (p:=⟨g,k * 7 + 3,none⟩) hgl).trans (own_cell (m:=7) (fun _=>rfl) HO5.out k 3 hlt (by omega)).1
     have q4:=(HB.out.cell (p:=⟨g,k * 7 + 4,none⟩) hgl).trans (own_cell (m:=7) (fun _=>rfl) HO5.out k 4 hlt (by omega)).1
     have q5:=(HB.out.cell (p:=⟨g,k * 7 + 5,none⟩) hgl).trans (own_cell (m:=7) (fun _=>rfl) HO5.out k 5 hlt (by omega)).1
     have q6:=(HB.out.cell (p:=⟨g,k * 7 + 6,none⟩) hgl).trans (own_cell (m:=7) (fun _=>rfl) HO5.out k 6 hlt (by omega)).1
     rw [← hx] at q0 q1 q2 q3 q4 q5 q6
     simp only [clC,figC,List.getElem?_cons_zero,List.getElem?_cons_succ,Nat.add_zero] at q0 q1 q2 q3 q4 q5 q6
     have hxm:x ∈ ks:=by rw [hx];exact List.getElem_mem hlt
     have HS:Hid (ba (dClosed ++ (ks.take k).flatMap f) ++ ba (f x)=ba (dClosed ++ (ks.take (k + 1)).flatMap f)):=by
      show _=_
      rw [flat_snoc f hlt,← hx]
      apply dba_ext
      simp [ba_data]
     have za:(ba (f x)).size≤400:=by rw [ba_size];exact HFL.out x hxm
     have zs:(ba (dClosed ++ (ks.take k).flatMap f)).size≤10000000:=by
      rw [ba_size,List.length_append]
      have h1:=flatB_len f 400 (ks.take k) (fun y hy=>HFL.out y (List.mem_of_mem_take hy))
      rw [List.length_take] at h1
      have h2:(dClosed:List UInt8).length≤10:=by decide
      have h3:min k ks.length≤1000:=by omega
      omega
     obtain ⟨s0,hs0⟩:∃ s,s=ba (dClosed ++ (ks.take k).flatMap f):=⟨_,rfl⟩
     rw [← hs0] at HS zs ⊢
     clear hs0
     have hbd:=HX.out x (by rw [← HKS.out];exact hxm)
     have hba:Below w5.heap.size w5 (wr.alloc (.cells #[.int .i64 x.month,.int .i64 x.turn,.int .i64 x.posted.inn,.int .i64 x.posted.out,.int .i64 x.posted.loss,.int .i64 x.posted.gain,.int .i64 x.posted.late] 170)):=HB.out.alloc HB.out.size _
     have hT:=fun W hW=>dclosing_any x W hW hbd.2.1 hbd.2.2 hbd.1
     rw [show closingT x=f x by rw [HF.out]] at hT
     obtain ⟨s1,hs1⟩:∃ s,s=ba (f x):=⟨_,rfl⟩
     rw [← hs1] at HS za hT
     obtain ⟨m,tn,⟨p1,p2,p3,p4,p5⟩⟩:=x
     simp only at q0 q1 q2 q3 q4 q5 q6 hT hba
     have HTT:=hidE hT
     clear hT hs1 hx hbd hxm
     go_wp2_with fail
     refine (HTT.out _ (HGN.out.below hba).glob.h.ev.num).mono ?_
     rintro y w6 ⟨rfl,hb6⟩
     have HB6:Hid (Below w5.heap.size w5 w6):=hba.trans (hb6.mono hba.size)
     clear hba hb6
     go_wp2
     go_roundw
     case rel=>exact ⟨k + 1,by omega,by go_num,by rw [HS.out],HB6⟩
     case measure=>simp [intOf];omega
   ·have HE:Hid (ks.take k=ks):=by show _=_;rw [show k=ks.length by omega,List.take_length]
    have hnn:¬ (k:Int) < (ks.length:Int):=by omega
    have HBF:Hid (Below w.heap.size w wr):=HB5.out.trans (HB.out.mono HB5.out.size)
    rw [HE.out,HFIN.out]
    clear hlt hk
    go_wp2
    go_ret
    exact HP.out _ HBF.out
theorem move_len (y:Lin) (q v:Int) (h1:I64 y.id) (h2:I64 y.val) (h3:I64 y.short) (h4:I64 y.late) (hq:I64 q) (hv:I64 v):(moveT y q v).length≤400:=by
 have e1:=Lib.itoa_length_le y.id h1.1 h1.2
 have e2:=amt_len y.val h2.1 h2.2
 have e3:=Lib.itoa_length_le y.short h3.1 h3.2
 have e4:=amt_len y.late h4.1 h4.2
 have e5:=Lib.itoa_length_le q hq.1 hq.2
 have e6:=amt_len v hv.1 hv.2
 simp only [moveT,amT,List.length_cons,List.length_append,byt_length]
 omega
set_option maxRecDepth 20000 in
set_option maxHeartbeats 4000000 in
theorem dmoves_any {w:World} {B cb ph:Nat} {sv cv:Value} {h:Hs} (a:DkAt w B cb ph sv cv h) (ho:HsOk h) (hn:h.ls.length≤10000) (hg:GroundD B w) (ws:List (List UInt8)) (v:Value) (hw:WsAt w v ws) (hl:ws.length≤100000) (hj:(joinB ws).length≤100000) :
  Calls Tryz.prog 78 #[.pointer (some ⟨cb,0,none⟩),v] w (DkP w B cb ph sv cv (movesA h ws)):=by
 have hz:∀ t ∈ ws,t.length≤100000:=fun t ht=>Nat.le_trans (mem_join ht) hj
 clear hl hj
 by_cases hk:ws.length=1
 rotate_left
 ·have e:movesA h ws=anE h 3:=by
   unfold movesA
   split
   ·exact absurd rfl hk
   ·rfl
  rw [e]
  obtain ⟨ad,cap,rfl,-,-⟩:=hw
  have hC:=dcount_bad ad ws.length cap 1 w (by omega)
  unfold thr at hC
  have HP:=hidE (fun W' (hb:Below w.heap.size w W')=>DkP.err (c:=3) a hb (by decide))
  clear a ho hg e hz hn
  go_enter Tryz.func78,Tryz.ntmps78
  go_wp2_with fail
  refine hC.mono ?_
  rintro x w1 ⟨rfl,hw1⟩
  subst w1
  clear hC
  go_wp2
  exact ⟨rfl,HP.out _ (Below.refl _ _)⟩
 obtain ⟨t0,rfl⟩:∃ t0,ws=[t0]:=by
  match ws,hk with
  | [x],_=>exact ⟨x,rfl⟩
 obtain ⟨ad,cap,rfl,-,hx | ⟨bk,o,rfl,lt,c⟩⟩:=hw
 ·cases hx
 have c0:w.cell? ⟨bk,o + 0,none⟩=some (.string (ba t0)):=c 0 t0 rfl
 have z0:(ba t0).size≤100000:=by rw [ba_size];exact hz t0 (by simp)
 clear c hz
 rw [Nat.add_zero] at c0
 have hC:=dcount_ok (some ⟨bk,o,none⟩) 1 cap 1 w rfl
 ·have HP:=hidE (fun W' (hb:Below w.heap.size w W')=>DkP.same (t:=movesT h (ba t0)) a hb)
  show Calls _ _ _ _ (DkP w B cb ph sv cv ⟨movesT h (ba t0),0,h⟩)
  obtain ⟨W0,hW0⟩:∃ W,W=w.drew:=⟨_,rfl⟩
  have hb0:Below w.heap.size w W0:=by rw [hW0];exact below_drew _
  have hU:=up_ne
  have hA:=anyW_ne
  have d0:W0.cell? ⟨bk,o,none⟩=some (.string (ba t0)):=(hb0.cell (p:=⟨bk,o,none⟩) lt).trans c0
  have f0:=fun n:Up W0=>n.cell d0
  have dc:=(a.below hb0).cc
  have fc:=fun n:Up W0=>n.cell dc
  have HG0:=hidE (hg.below hb0)
  have HB0:=hidE hb0
  have HW0:=hidE hW0
  clear hb0 hW0 d0 dc
  have HEV:Hid (∀ e ∈ evIt h.bk (ba t0) (-1),Rt e∧EvW e∧I64 e.id):=fun e he=>by
   have h0:=(List.mem_filter.1 he).1
   have h1:=as_allD ho.inv _ e h0
   refine ⟨h1.1,h1.2,?_⟩
   obtain ⟨v,hv,rfl⟩:=List.mem_map.1 ((srt_perm _).mem_iff.1 h0)
   have h1:=ho.inv.id v (List.mem_filter.1 hv).1
   have h2:=ho.inv.gn
   have h3:=ho.n
   exact ⟨by omega,by omega⟩
  have hEl:(evIt h.bk (ba t0) (-1)).length≤120:=by
   have h1:=List.length_filter_le (fun e:Ev=>decide (e.item=ba t0)) (srt (asOf h.bk (tOf h.bk (-1))))
   rw [srt_len] at h1
   unfold asOf at h1
   rw [List.length_map] at h1
   have h2:=List.length_filter_le (isAt (tOf h.bk (-1))) h.bk.vs
   have:=ho.inv.full
   unfold evIt asOf
   omega
  have hAt:=remov_any (a.below HB0.out).hs.bk (by have:=ho.inv.full;omega) (ba t0) (by unfold maxLen;omega) (-1) (fun e he=>(HEV.out e he).2.1) (fun e he=>(HEV.out e he).1)
  rw [movD_flat (fun e he=>(HEV.out e he).1)] at hAt
  obtain ⟨E,hE⟩:∃ E,E=evIt h.bk (ba t0) (-1):=⟨_,rfl⟩
  rw [← hE] at hAt HEV hEl
  have HEQ:=hidE hE
  have HEL:Hid (E.length≤120):=hEl
  have HER:Hid (∀ e ∈ E,Rt e∧I64 e.id):=fun e he=>⟨(HEV.out e he).1,(HEV.out e he).2.2⟩
  clear a ho hg hk hn hE HEV hEl
  go_enter Tryz.func78,Tryz.ntmps78
  go_wp2_with fail
  refine hC.mono ?_
  rintro x w1 ⟨rfl,hw1⟩
  subst w1
  clear hC
  go_wp2_with fail
  refine wp_region_stop (fun _ _ _=>False) [(.pure,0),(.pure,1),(.pure,2),(.read,3),(.pure,4),(.pure,5),(.pure,6),(.pure,7),(.read,8),(.pure,11),(.make,9),(.make,10)] (by kernel_rfl) (by kernel_rfl) (fun ch a w hx=>False.elim hx) ?_
  rw [← HW0.out]
  repeat ((first | refine stop_p rfl ?_ | refine stop_q rfl ?_);go_big_quiet_step (fail);refine wpQuiet_nil ?_)
  refine stop_n rfl ?_
  go_wp2_with fail
  refine hAt.mono ?_
  rintro x w5 ⟨v1,rfl,hown,hb5⟩
  obtain ⟨ad1,cp1,hv1⟩:=own_lenN hown
  subst hv1
  go_wp2_with fail
  refine ⟨rfl,hb5,?_⟩
  refine stop_n rfl ?_
  go_wp2_with fail
  refine ⟨rfl,Below.refl _ _,?_⟩
  refine stop_nil ?_
  have HL:Hid (E.length=(List.range E.length).length):=(List.length_range ..).symm
  have HO5:Hid (w5.ownsRow W0.heap.size 182 14 (.slice ad1 (List.range E.length).length cp1) (List.range E.length).length ((List.range E.length).flatMap (movD E (ba t0)))):=by
   show World.ownsRow _ _ _ _ _ _ _
   rw [← HL.out]
   exact hown
  rw [HL.out]
  have HB5:Hid (Below w.heap.size w w5):=HB0.out.trans (hb5.mono HB0.out.size)
  have HGN:Hid (GroundD B w5):=HG0.out.below hb5
  clear f0 fc c0 hAt hown
  obtain ⟨ks,hks⟩:∃ l,l=List.range E.length:=⟨_,rfl⟩
  rw [← hks] at HO5 ⊢
  have HKS:=hidE hks
  have hkl:ks.length≤1000:=by
   rw [hks]
   rw [List.length_range]
   have:=HEL.out
   omega
  obtain ⟨f,hf⟩:∃ f,f=movT E (ba t0):=⟨_,rfl⟩
  have HF:=hidE hf
  have HBD:Hid (∀ j ∈ ks,j < E.length→I64 ((goL stk00 (ordd (E.take (j + 1)))).getD j linD0).id∧I64 ((goL stk00 (ordd (E.take (j + 1)))).getD j linD0).val∧I64 ((goL stk00 (ordd (E.take (j + 1)))).getD j linD0).short∧I64 ((goL stk00 (ordd (E.take (j + 1)))).getD j linD0).late∧I64 (sumQ (goS stk00 (ordd (E.take (j + 1))) (ba t0)).ys)∧I64 (sumV (goS stk00 (ordd (E.take (j + 1))) (ba t0)).ys)):=fun j _ hj=>by
   have hle:(E.take (j + 1)).length≤1000:=by rw [List.length_take];have:=HEL.out;omega
   have hol:=ordd_len (E.take (j + 1))
   have hlen:(goL stk00 (ordd (E.take (j + 1)))).length=j + 1:=by
    rw [goL_len,ordd_stl (fun e he=>(HER.out e (List.mem_of_mem_take he)).1),stl_len,List.length_take]
    omega
   have hmem:(goL stk00 (ordd (E.take (j + 1)))).getD j linD0 ∈ goL stk00 (ordd (E.take (j + 1))):=by
    rw [List.getD_eq_getElem?_getD,List.getElem?_eq_getElem (by omega)]
    exact List.getElem_mem _
   have hb:=lines_bd (ordd (E.take (j + 1))) 0 stk00 (fun y=>stk0_ok 0) (ordd_rt _) (by omega) _ hmem
   have hs:=(goS_ok (ordd (E.take (j + 1))) 0 stk00 (fun y=>stk0_ok 0) (ordd_rt _)).1 (ba t0)
   have hs2:=st_bd (hs.more (j:=1000) (by omega))
   obtain ⟨⟨e,he,hid⟩,h1,h2,h3⟩:=hb
   have hem:e ∈ E:=by
    have:=(stl_perm ((E.take (j + 1)).filter rtB)).mem_iff.1 he
    exact List.mem_of_mem_take (List.mem_filter.1 this).1
   refine ⟨?_,h1,h2,h3,⟨by omega,by omega⟩,⟨by omega,by omega⟩⟩
   rw [hid]
   exact (HER.out e hem).2
  have HFL:Hid (∀ j ∈ ks,(f j).length≤400):=fun j hj=>by
   rw [hf]
   have h1:=HBD.out j hj (by rw [hks] at hj;exact List.mem_range.1 hj)
   unfold movT
   rw [← List.getD_eq_getElem?_getD]
   exact move_len _ _ _ h1.1 h1.2.1 h1.2.2.1 h1.2.2.2.1 h1.2.2.2.2.1 h1.2.2.2.2.2
  have HFIN:Hid (ba (dMoves ++ ks.flatMap f)=ba (movesT h (ba t0))):=by
   show _=_
   rw [hf,hks,HEQ.out]
   rfl
  clear hf hks
  go_wp2
  go_loopw [5,21] (fun s i wr=>∃ k:Nat,k≤ks.length∧i = .int .i64 k∧s = .string (ba (dMoves ++ (ks.take k).flatMap f))∧Hid (Below w5.heap.size w5 wr)) (fun _ i _=>ks.length - (intOf i).toNat)
  case atStart=>exact ⟨0,Nat.zero_le _,rfl,rfl,Below.refl _ _⟩
  case round=>
   obtain ⟨k,hk,rfl,rfl,HB⟩:=hrel
   by_cases hlt:k < ks.length
   ·rcases own_form HO5.out with ⟨_,e2,_⟩ | ⟨g,cp,e1,hgB,hgl,_⟩
    ·rw [e2] at hlt;exact absurd hlt (Nat.not_lt_zero _)
    ·simp only [Value.slice.injEq] at e1
     obtain ⟨rfl,_,rfl⟩:=e1
     obtain ⟨x,hx⟩:∃ x,x=ks[k]:=⟨_,rfl⟩
     have q0:=(HB.out.cell (p:=⟨g,k * 14 + 0,none⟩) hgl).trans (own_cell (m:=14) (fun _=>rfl) HO5.out k 0 hlt (by omega)).1
     have q1:=(HB.out.cell (p:=⟨g,k * 14 + 1,none⟩) hgl).trans (own_cell (m:=14) (fun _=>rfl) HO5.out k 1 hlt (by omega)).1
     have q2:=(HB.out.cell (p:=⟨g,k * 14 + 2,none⟩) hgl).trans (own_cell (m:=14) (fun _=>rfl) HO5.out k 2 hlt (by omega)).1
     have q3:=(HB.out.cell (p:=⟨g,k * 14 + 3,none⟩) hgl).trans (own_cell (m:=14) (fun _=>rfl) HO5.out k 3 hlt (by omega)).1
     have q4:=(HB.out.cell (p:=⟨g,k * 14 + 4,none⟩) hgl).trans (own_cell (m:=14) (fun _=>rfl) HO5.out k 4 hlt (by omega)).1
     have q5:=(HB.out.cell (p:=⟨g,k * 14 + 5,none⟩) hgl).trans (own_cell (m:=14) (fun _=>rfl) HO5.out k 5 hlt (by omega)).1
     have q6:=(HB.out.cell (p:=⟨g,k * 14 + 6,none⟩) hgl).trans (own_cell (m:=14) (fun _=>rfl) HO5.out k 6 hlt (by omega)).1
     have q7:=(HB.out.cell (p:=⟨g,k * 14 + 7,none⟩) hgl).trans (own_cell (m:=14) (fun _=>rfl) HO5.out k 7 hlt (by omega)).1
     have q8:=(HB.out.cell (p:=⟨g,k * 14 + 8,none⟩) hgl).trans (own_cell (m:=14) (fun _=>rfl) HO5.out k 8 hlt (by omega)).1
     have q9:=(HB.out.cell (p:=⟨g,k * 14 + 9,none⟩) hgl).trans (own_cell (m:=14) (fun _=>rfl) HO5.out k 9 hlt (by omega)).1
     have q10:=(HB.out.cell (p:=⟨g,k * 14 + 10,none⟩) hgl).trans (own_cell (m:=14) (fun _=>rfl) HO5.out k 10 hlt (by omega)).1
     have q11:=(HB.out.cell (p:=⟨g,k * 14 + 11,none⟩) hgl).trans (own_cell (m:=14) (fun _=>rfl) HO5.out k 11 hlt (by omega)).1
     have q12:=(HB.out.cell (p:=⟨g,k * 14 + 12,none⟩) hgl).trans (own_cell (m:=14) (fun _=>rfl) HO5.out k 12 hlt (by omega)).1
     have q13:=(HB.out.cell (p:=⟨g,k * 14 + 13,none⟩) hgl).trans (own_cell (m:=14) (fun _=>rfl) HO5.out k 13 hlt (by omega)).1
     rw [← hx] at q0 q1 q2 q3 q4 q5 q6 q7 q8 q9 q10 q11 q12 q13
     simp only [movD,evC,linC,List.cons_append,List.nil_append,List.getElem?_cons_zero,List.getElem?_cons_succ,Nat.add_zero] at q0 q1 q2 q3 q4 q5 q6 q7 q8 q9 q10 q11 q12 q13
     have hxm:x ∈ ks:=by rw [hx];exact List.getElem_mem hlt
     have HS:Hid (ba (dMoves ++ (ks.take k).flatMap f) ++ ba (f x)=ba (dMoves ++ (ks.take (k + 1)).flatMap f)):=by
      show _=_
      rw [flat_snoc f hlt,← hx]
      apply dba_ext
      simp [ba_data]
     have za:(ba (f x)).size≤400:=by rw [ba_size];exact HFL.out x hxm
     have zs:(ba (dMoves ++ (ks.take k).flatMap f)).size≤10000000:=by
      rw [ba_size,List.length_append]
      have h1:=flatB_len f 400 (ks.take k) (fun y hy=>HFL.out y (List.mem_of_mem_take hy))
      rw [List.length_take] at h1
      have h2:(dMoves:List UInt8).length≤10:=by decide
      have h3:min k ks.length≤1000:=by omega
      omega
     obtain ⟨s0,hs0⟩:∃ s,s=ba (dMoves ++ (ks.take k).flatMap f):=⟨_,rfl⟩
     rw [← hs0] at HS zs ⊢
     clear hs0
     have hxl:x < E.length:=by rw [HKS.out] at hxm;exact List.mem_range.1 hxm
     have hbd:=HBD.out x hxm hxl
     obtain ⟨y,hy⟩:∃ y,y=(goL stk00 (ordd (E.take (x + 1)))).getD x linD0:=⟨_,rfl⟩
     obtain ⟨ev,hev⟩:∃ ev,ev=E.getD x evD0:=⟨_,rfl⟩
     obtain ⟨q,hq⟩:∃ q,q=sumQ (goS stk00 (ordd (E.take (x + 1))) (ba t0)).ys:=⟨_,rfl⟩
     obtain ⟨v,hv⟩:∃ v,v=sumV (goS stk00 (ordd (E.take (x + 1))) (ba t0)).ys:=⟨_,rfl⟩
     rw [← hev] at q0 q1 q2 q3 q4 q5 q6
     rw [← hy] at q7 q8 q9 q10 q11 hbd
     rw [← hq] at q12 hbd
     rw [← hv] at q13 hbd
     have hT:=fun W hW=>dmove_any (.int .i64 ev.id) (.string ev.item) (.int .i64 ev.kind) (.int .i64 ev.qty) (.int .i64 ev.price) (.int .i64 ev.ofI) (.int .i64 ev.day) y q v W hW hbd.1 hbd.2.1 hbd.2.2.1 hbd.2.2.2.1 hbd.2.2.2.2.1 hbd.2.2.2.2.2
     rw [show moveT y q v=f x by rw [HF.out,hy,hq,hv,List.getD_eq_getElem?_getD];rfl] at hT
     have hba:Below w5.heap.size w5 (wr.alloc (.cells #[.int .i64 ev.id,.string ev.item,.int .i64 ev.kind,.int .i64 ev.qty,.int .i64 ev.price,.int .i64 ev.ofI,.int .i64 ev.day,.int .i64 y.id,.int .i64 y.val,.int .i64 y.short,.int .i64 y.late,.bool y.gain,.int .i64 q,.int .i64 v] 182)):=HB.out.alloc HB.out.size _
     obtain ⟨s1,hs1⟩:∃ s,s=ba (f x):=⟨_,rfl⟩
     rw [← hs1] at HS za hT
     have HTT:=hidE hT
     clear hT hs1 hx hbd hxm hy hev hq hv hxl
     go_wp2_with fail
     refine (HTT.out _ (HGN.out.below hba).glob.h.ev.num).mono ?_
     rintro z w6 ⟨rfl,hb6⟩
     have HB6:Hid (Below w5.heap.size w5 w6):=hba.trans (hb6.mono hba.size)
     clear hba hb6
     go_wp2
     go_roundw
     case rel=>exact ⟨k + 1,by omega,by go_num,by rw [HS.out],HB6⟩
     case measure=>simp [intOf];omega
   ·have HE:Hid (ks.take k=ks):=by show _=_;rw [show k=ks.length by omega,List.take_length]
    have hnn:¬ (k:Int) < (ks.length:Int):=by omega
    have HBF:Hid (Below w.heap.size w wr):=HB5.out.trans (HB.out.mono HB5.out.size)
    rw [HE.out,HFIN.out]
    clear hlt hk
    go_wp2
    go_ret
    exact HP.out _ HBF.out
end Go.Proofs.YtbleojodidbhiaaGreatDoor
