/-  -/
import Derived.Test.YtbleojodidbhiaaGreatDoorBnDs
import Derived.Test.YtbleojodidbhiaaGreatDoorBnGlob
import Derived.Test.YtbleojodidbhiaaGreatDoorBnShb
import Derived.Lib.AppendIntMem
import Derived.Lib.Walk
import Derived.Lib.ItoaMem
import Derived.BigCall
import Derived.BigGuard
import Derived.Test.YtbleojodidbhiaaGreatDoorBnT
namespace Go.Proofs.YtbleojodidbhiaaGreatDoor
open Go.RowKit
theorem am_size (v:Int) (h:I64 v):(strOfNums (amt v)).size≤25:=amt_strsize v h.1 h.2
set_option maxHeartbeats 1000000 in
theorem damount_any (x:ByteArray) (q v:Int) (w:World) (hg:GlobN w) (hx:x.size≤1000) (hq:I64 q) (hv:I64 v) :
  Calls Tryz.prog 120 #[.string x,.int .i64 q,.int .i64 v] w fun e w'=>e = .returned (.string (ba (amountT x q v)))∧Below w.heap.size w w':=by
 have hI:=itoaN q w hg hq.1 hq.2
 have hP:=fun W=>print_any v W hv.1 hv.2
 have hz:=itoaZ q hq.1 hq.2
 have hz2:=am_size v hv
 clear hg hq hv
 go_enter Tryz.func120,Tryz.ntmps120
 go_wp2_with fail
 refine hI.mono ?_
 rintro e w1 ⟨rfl,hb⟩
 clear hI
 go_wp2_with fail
 refine (hP _).mono ?_
 rintro e w2 ⟨rfl,hb2⟩
 clear hP
 go_wp2
 go_ret
 refine ⟨ret_str ?_,hb.trans (hb2.mono hb.size)⟩
 simp [amountT,amT,ba_data,eb_list,amt_data]
def fig5 (f:Fig):List Int:=[f.inn,f.out,f.loss,f.gain,f.late]
def figP (l:List Int):List UInt8:=l.flatMap fun n=>32 :: amT n
theorem fig_is (f:Fig):figP (fig5 f)=figT f:=by simp [figP,fig5,figT]
theorem ixf0 (a0 a1 a2 a3 a4:Value) (w:World):(Instr.index 241 (.agg #[a0,a1,a2,a3,a4]) (.int .i64 0)).run Tryz.prog w = .ok a0 w:=by kernel_rfl
theorem ixf1 (a0 a1 a2 a3 a4:Value) (w:World):(Instr.index 241 (.agg #[a0,a1,a2,a3,a4]) (.int .i64 1)).run Tryz.prog w = .ok a1 w:=by kernel_rfl
theorem ixf2 (a0 a1 a2 a3 a4:Value) (w:World):(Instr.index 241 (.agg #[a0,a1,a2,a3,a4]) (.int .i64 2)).run Tryz.prog w = .ok a2 w:=by kernel_rfl
theorem ixf3 (a0 a1 a2 a3 a4:Value) (w:World):(Instr.index 241 (.agg #[a0,a1,a2,a3,a4]) (.int .i64 3)).run Tryz.prog w = .ok a3 w:=by kernel_rfl
theorem ixf4 (a0 a1 a2 a3 a4:Value) (w:World):(Instr.index 241 (.agg #[a0,a1,a2,a3,a4]) (.int .i64 4)).run Tryz.prog w = .ok a4 w:=by kernel_rfl
theorem index_fig5 (f1 f2 f3 f4 f5:Int) (k:Nat) (hk:k < [f1,f2,f3,f4,f5].length) (w:World):(Instr.index 241 (.agg #[.int .i64 f1,.int .i64 f2,.int .i64 f3,.int .i64 f4,.int .i64 f5]) (.int .i64 k)).run Tryz.prog w = .ok (.int .i64 [f1,f2,f3,f4,f5][k]) w:=by
 have h5:k < 5:=hk
 obtain rfl | rfl | rfl | rfl | rfl:k=0∨k=1∨k=2∨k=3∨k=4:=by omega
 ·exact ixf0 _ _ _ _ _ w
 ·exact ixf1 _ _ _ _ _ w
 ·exact ixf2 _ _ _ _ _ w
 ·exact ixf3 _ _ _ _ _ w
 ·exact ixf4 _ _ _ _ _ w
theorem figP_len:∀ (l:List Int),(∀ n ∈ l,I64 n)→(figP l).length≤26 * l.length
 | [],_=>Nat.le_refl _
 | n :: l,h=>by
  have h1:=figP_len l (fun x hx=>h x (List.mem_cons_of_mem _ hx))
  have h2:=h n (List.mem_cons_self ..)
  have h3:=amt_len n h2.1 h2.2
  have e:figP (n :: l)=32 :: amT n ++ figP l:=rfl
  rw [e,List.length_append,List.length_cons,List.length_cons]
  unfold amT
  rw [byt_length]
  omega
theorem figP_snoc {l:List Int} {k:Nat} (hk:k < l.length):figP (l.take (k + 1))=figP (l.take k) ++ 32 :: amT l[k]:=by
 unfold figP
 rw [List.take_succ_eq_append_getElem hk,List.flatMap_append]
 simp
set_option maxRecDepth 20000 in
set_option maxHeartbeats 1000000 in
theorem dfigures_any (f:Fig) (w:World) (hf:f.ok) :
  Calls Tryz.prog 135 #[figV f] w fun e w'=>e = .returned (.string (ba (figT f)))∧Below w.heap.size w w':=by
 rw [← fig_is]
 have HA:Hid (∀ n ∈ fig5 f,I64 n):=fun n hn=>by
  simp only [fig5,List.mem_cons,List.not_mem_nil,or_false] at hn
  rcases hn with rfl | rfl | rfl | rfl | rfl
  ·exact hf.inn
  ·exact hf.out
  ·exact hf.loss
  ·exact hf.gain
  ·exact hf.late
 obtain ⟨f1,f2,f3,f4,f5⟩:=f
 unfold figV
 simp only
 have hix:=index_fig5 f1 f2 f3 f4 f5
 have HP:Hid (∀ (n:Int) (W:World),I64 n→Calls Tryz.prog 139 #[.int .i64 n] W fun e w'=>e = .returned (.string (strOfNums (amt n)))∧Below W.heap.size W w'):=fun n W h=>print_any n W h.1 h.2
 clear hf
 obtain ⟨ff,hff⟩:∃ x,x=fig5 ⟨f1,f2,f3,f4,f5⟩:=⟨_,rfl⟩
 have h5:ff.length=5:=by rw [hff];rfl
 have hix2:∀ (k:Nat) (hk:k < ff.length) (w:World),(Instr.index 241 (.agg #[.int .i64 f1,.int .i64 f2,.int .i64 f3,.int .i64 f4,.int .i64 f5]) (.int .i64 k)).run Tryz.prog w = .ok (.int .i64 ff[k]) w:=by
  subst hff
  exact hix
 rw [← hff] at HA ⊢
 clear hix hff
 go_enter Tryz.func135,Tryz.ntmps135
 go_wp2_with fail
 obtain ⟨w0,hw0⟩:∃ W,W=w.alloc (.cells #[.int .i64 f1,.int .i64 f2,.int .i64 f3,.int .i64 f4,.int .i64 f5] 151):=⟨_,rfl⟩
 rw [← hw0]
 have HB0:Hid (Below w.heap.size w w0):=by show Below _ _ _;rw [hw0];exact (Below.refl _ _).alloc (Nat.le_refl _) _
 clear hw0
 go_loopw [3,17] (fun s i wr=>∃ k:Nat,k≤5∧i = .int .i64 k∧s = .string (ba (figP (ff.take k)))∧Hid (Below w.heap.size w wr)) (fun _ i _=>5 - (intOf i).toNat)
 case atStart=>exact ⟨0,by omega,rfl,rfl,HB0⟩
 case round=>
  obtain ⟨k,hk,rfl,rfl,HB⟩:=hrel
  by_cases hlt:k < 5
  ·have hkl:k < ff.length:=by omega
   have hx:=hix2 k hkl wr
   have hin:=HA.out ff[k] (List.getElem_mem hkl)
   have hz:(ba (figP (ff.take k))).size≤130:=by
    rw [ba_size]
    have:=figP_len (ff.take k) (fun n hn=>HA.out n (List.mem_of_mem_take hn))
    rw [List.length_take] at this
    omega
   have hz2:=amt_strsize ff[k] hin.1 hin.2
   have hP:=HP.out ff[k] wr hin
   have HTK:Hid ((ba (figP (ff.take k)) ++ ((⟨#[32]⟩:ByteArray) ++ strOfNums (amt ff[k])))=ba (figP (ff.take (k + 1)))):=by
    show _=_
    apply ba_ext
    rw [figP_snoc hkl]
    simp [ba_data,amT,strOf_byt]
   obtain ⟨s0,hs0⟩:∃ s,s=ba (figP (ff.take k)):=⟨_,rfl⟩
   rw [← hs0] at hz HTK ⊢
   obtain ⟨n,hn⟩:∃ n,n=ff[k]:=⟨_,rfl⟩
   rw [← hn] at hx hP hz2 HTK
   clear hs0 hn hix2 hin
   go_wp2_with fail
   refine hP.mono ?_
   rintro e w1 ⟨rfl,hb1⟩
   have HB1:Hid (Below w.heap.size w w1):=HB.out.trans (hb1.mono HB.out.size)
   clear hP hb1 hx
   go_wp2
   go_roundw
   case rel=>exact ⟨k + 1,by omega,by go_num,by rw [HTK.out],HB1⟩
   case measure=>simp [intOf];omega
  ·have HE:Hid (ff.take k=ff):=by show _=_;rw [show k=ff.length by omega,List.take_length]
   have hn:¬ (k:Int) < 5:=by omega
   clear hix2 hlt hk
   go_wp2
   go_ret
   exact ⟨by rw [HE.out];rfl,HB.out⟩
set_option maxHeartbeats 1000000 in
theorem dturns_any (v:Vr) (w:World) (hg:GlobN w) (hq:I64 v.fr) (hv:I64 v.to) :
  Calls Tryz.prog 129 #[vrV v] w fun e w'=>e = .returned (.string (ba (turnsT v)))∧Below w.heap.size w w':=by
 obtain ⟨⟨id,item,kind,qty,price,ofI,day⟩,fr,tq⟩:=v
 unfold vrV
 simp only at hq hv ⊢
 have hI:=fun W hW=>itoaN fr W hW hq.1 hq.2
 have hP:=fun W hW=>itoaN tq W hW hv.1 hv.2
 have hz:=itoaZ fr hq.1 hq.2
 have hz2:=itoaZ tq hv.1 hv.2
 have HG:=hidE hg
 clear hg hq hv
 have hU:=up_ne
 obtain ⟨W0,hW⟩:∃ W,W=(w.alloc (.cells #[.int .i64 id,.string item,.int .i64 kind,.int .i64 qty,.int .i64 price,.int .i64 ofI,.int .i64 day,.int .i64 fr,.int .i64 tq] 95)).drew:=⟨_,rfl⟩
 have hB0:Below w.heap.size w W0:=by rw [hW];exact ((Below.refl _ _).alloc (Nat.le_refl _) _).trans ((below_drew _).mono (by simp))
 have g0:W0.cell? ⟨w.heap.size,7,none⟩=some (.int .i64 fr):=by rw [hW];simp
 have g1:W0.cell? ⟨w.heap.size,8,none⟩=some (.int .i64 tq):=by rw [hW];simp
 have f0:=fun n:Up W0=>n.cell g0
 have f1:=fun n:Up W0=>n.cell g1
 clear g0 g1
 go_enter Tryz.func129,Tryz.ntmps129
 go_wp2_with fail
 refine wp_region_mix [(true,0),(true,1),(true,5),(true,6),(false,2),(true,3),(true,4),(false,7),(true,8),(true,9)] (by kernel_rfl) (by kernel_rfl) ?_
 rw [← hW]
 clear hW
 repeat (refine mix_q rfl ?_;go_big_quiet_step (fail);refine wpQuiet_nil ?_)
 refine mix_n rfl ?_
 go_wp2_with fail
 refine (hI _ (HG.out.below hB0)).mono ?_
 rintro e W1 ⟨rfl,hb1⟩
 go_wp2_with fail
 refine ⟨rfl,hb1,?_⟩
 repeat (refine mix_q rfl ?_;go_big_quiet_step (fail);refine wpQuiet_nil ?_)
 refine mix_n rfl ?_
 go_wp2_with fail
 have hB1:=hB0.trans (hb1.mono hB0.size)
 refine (hP _ (HG.out.below hB1)).mono ?_
 rintro e W2 ⟨rfl,hb2⟩
 go_wp2_with fail
 refine ⟨rfl,hb2,?_⟩
 repeat (refine mix_q rfl ?_;go_big_quiet_step (fail);refine wpQuiet_nil ?_)
 refine mix_nil ?_
 go_wp2
 go_ret
 refine ⟨ret_str ?_,hB1.trans (hb2.mono hB1.size)⟩
 simp [turnsT,ba_data,eb_list]
set_option maxRecDepth 20000 in
set_option maxHeartbeats 2000000 in
theorem dmove_any (e0 e1 e2 e3 e4 e5 e6:Value) (y:Lin) (q v:Int) (w:World) (hg:GlobN w) (h1:I64 y.id) (h2:I64 y.val) (h3:I64 y.short) (h4:I64 y.late) (hq:I64 q) (hv:I64 v) :
  Calls Tryz.prog 131 #[.agg #[e0,e1,e2,e3,e4,e5,e6,.int .i64 y.id,.int .i64 y.val,.int .i64 y.short,.int .i64 y.late,.bool y.gain,.int .i64 q,.int .i64 v]] w fun e w'=>e = .returned (.string (ba (moveT y q v)))∧Below w.heap.size w w':=by
 obtain ⟨id,val,sh,la,gn⟩:=y
 simp only at h1 h2 h3 h4 ⊢
 have HG:=hidE hg
 have hU:=up_ne
 have I1:=fun W hW=>itoaN id W hW h1.1 h1.2
 have P2:=fun W=>print_any val W h2.1 h2.2
 have I3:=fun W hW=>itoaN sh W hW h3.1 h3.2
 have P4:=fun W=>print_any la W h4.1 h4.2
 have I5:=fun W hW=>itoaN q W hW hq.1 hq.2
 have P6:=fun W=>print_any v W hv.1 hv.2
 have z1:=itoaZ id h1.1 h1.2
 have z2:=am_size val h2
 have z3:=itoaZ sh h3.1 h3.2
 have z4:=am_size la h4
 have z5:=itoaZ q hq.1 hq.2
 have z6:=am_size v hv
 clear h1 h2 h3 h4 hq hv hg
 obtain ⟨W0,hW⟩:∃ W,W=((w.alloc (.cells #[e0,e1,e2,e3,e4,e5,e6,.int .i64 id,.int .i64 val,.int .i64 sh,.int .i64 la,.bool gn,.int .i64 q,.int .i64 v] 182)).alloc (.cells #[.int .i64 id,.int .i64 val,.int .i64 sh,.int .i64 la,.bool gn] 180)).drew:=⟨_,rfl⟩
 have hB0:Below w.heap.size w W0:=by rw [hW];exact (((Below.refl _ _).alloc (Nat.le_refl _) _).alloc (by simp) _).trans ((below_drew _).mono (by simp;omega))
 have g0:W0.cell? ⟨w.heap.size + 1,0,none⟩=some (.int .i64 id):=by rw [hW];simp
 have g1:W0.cell? ⟨w.heap.size + 1,1,none⟩=some (.int .i64 val):=by rw [hW];simp
 have g2:W0.cell? ⟨w.heap.size + 1,2,none⟩=some (.int .i64 sh):=by rw [hW];simp
 have g3:W0.cell? ⟨w.heap.size + 1,3,none⟩=some (.int .i64 la):=by rw [hW];simp
 have g4:W0.cell? ⟨w.heap.size,12,none⟩=some (.int .i64 q):=by rw [hW];simp
 have g5:W0.cell? ⟨w.heap.size,13,none⟩=some (.int .i64 v):=by rw [hW];simp
 have f0:=fun n:Up W0=>n.cell g0
 have f1:=fun n:Up W0=>n.cell g1
 have f2:=fun n:Up W0=>n.cell g2
 have f3:=fun n:Up W0=>n.cell g3
 have f4:=fun n:Up W0=>n.cell g4
 have f5:=fun n:Up W0=>n.cell g5
 clear g0 g1 g2 g3 g4 g5
 go_enter Tryz.func131,Tryz.ntmps131
 go_wp2_with fail
 refine wp_region_mix [(true,0),(true,1),(true,5),(true,6),(true,10),(true,11),(true,15),(true,16),(true,20),(true,21),(true,25),(true,26),(false,2),(true,3),(true,4),(false,7),(true,8),(true,9),(false,12),(true,13),(true,14),(false,17),(true,18),(true,19),(false,22),(true,23),(true,24),(false,27),(true,28),(true,29)] (by kernel_rfl) (by kernel_rfl) ?_
 rw [← hW]
 clear hW
 repeat (refine mix_q rfl ?_;go_big_quiet_step (fail);refine wpQuiet_nil ?_)
 refine mix_n rfl ?_
 go_wp2_with fail
 refine (I1 _ (HG.out.below hB0)).mono ?_
 rintro e W1 ⟨rfl,hb1⟩
 have hB1:=hB0.trans (hb1.mono hB0.size)
 go_wp2_with fail
 refine ⟨rfl,hb1,?_⟩
 repeat (refine mix_q rfl ?_;go_big_quiet_step (fail);refine wpQuiet_nil ?_)
 refine mix_n rfl ?_
 go_wp2_with fail
 refine (P2 _).mono ?_
 rintro e W2 ⟨rfl,hb2⟩
 have hB2:=hB1.trans (hb2.mono hB1.size)
 go_wp2_with fail
 refine ⟨rfl,hb2,?_⟩
 repeat (refine mix_q rfl ?_;go_big_quiet_step (fail);refine wpQuiet_nil ?_)
 refine mix_n rfl ?_
 go_wp2_with fail
 refine (I3 _ (HG.out.below hB2)).mono ?_
 rintro e W3 ⟨rfl,hb3⟩
 have hB3:=hB2.trans (hb3.mono hB2.size)
 go_wp2_with fail
 refine ⟨rfl,hb3,?_⟩
 repeat (refine mix_q rfl ?_;go_big_quiet_step (fail);refine wpQuiet_nil ?_)
 refine mix_n rfl ?_
 go_wp2_with fail
 refine (P4 _).mono ?_
 rintro e W4 ⟨rfl,hb4⟩
 have hB4:=hB3.trans (hb4.mono hB3.size)
 go_wp2_with fail
 refine ⟨rfl,hb4,?_⟩
 repeat (refine mix_q rfl ?_;go_big_quiet_step (fail);refine wpQuiet_nil ?_)
 refine mix_n rfl ?_
 go_wp2_with fail
 refine (I5 _ (HG.out.below hB4)).mono ?_
 rintro e W5 ⟨rfl,hb5⟩
 have hB5:=hB4.trans (hb5.mono hB4.size)
 go_wp2_with fail
 refine ⟨rfl,hb5,?_⟩
 repeat (refine mix_q rfl ?_;go_big_quiet_step (fail);refine wpQuiet_nil ?_)
 refine mix_n rfl ?_
 go_wp2_with fail
 refine (P6 _).mono ?_
 rintro e W6 ⟨rfl,hb6⟩
 have hB6:=hB5.trans (hb6.mono hB5.size)
 go_wp2_with fail
 refine ⟨rfl,hb6,?_⟩
 repeat (refine mix_q rfl ?_;go_big_quiet_step (fail);refine wpQuiet_nil ?_)
 refine mix_nil ?_
 go_wp2
 go_ret
 refine ⟨ret_str ?_,hB6⟩
 simp [moveT,amT,ba_data,eb_list,amt_data]
set_option maxRecDepth 20000 in
set_option maxHeartbeats 2000000 in
theorem dclosing_any (c:Cl) (w:World) (hg:GlobN w) (h1:I64 c.month) (h2:I64 c.turn) (h3:c.posted.ok) :
  Calls Tryz.prog 124 #[.agg #[.int .i64 c.month,.int .i64 c.turn,.int .i64 c.posted.inn,.int .i64 c.posted.out,.int .i64 c.posted.loss,.int .i64 c.posted.gain,.int .i64 c.posted.late]] w fun e w'=>e = .returned (.string (ba (closingT c)))∧Below w.heap.size w w':=by
 obtain ⟨m,tn,⟨p1,p2,p3,p4,p5⟩⟩:=c
 simp only at h1 h2 h3 ⊢
 have HG:=hidE hg
 have hU:=up_ne
 have I1:=fun W hW=>itoaN m W hW h1.1 h1.2
 have I2:=fun W hW=>itoaN tn W hW h2.1 h2.2
 have F3:=fun W=>dfigures_any ⟨p1,p2,p3,p4,p5⟩ W h3
 unfold figV at F3
 have z1:=itoaZ m h1.1 h1.2
 have z2:=itoaZ tn h2.1 h2.2
 have z3:(ba (figT ⟨p1,p2,p3,p4,p5⟩)).size≤130:=by
  rw [ba_size,← fig_is]
  refine figP_len _ fun n hn=>?_
  simp only [fig5,List.mem_cons,List.not_mem_nil,or_false] at hn
  rcases hn with rfl | rfl | rfl | rfl | rfl
  ·exact h3.inn
  ·exact h3.out
  ·exact h3.loss
  ·exact h3.gain
  ·exact h3.late
 have HT:Hid ((⟨#[32,124,32]⟩:ByteArray) ++ eb (Lib.itoa m) ++ ⟨#[32]⟩ ++ eb (Lib.itoa tn) ++ ba (figT ⟨p1,p2,p3,p4,p5⟩)=ba (closingT ⟨m,tn,⟨p1,p2,p3,p4,p5⟩⟩)):=by
  show _=_
  apply dba_ext
  simp [closingT,ba_data,eb_list]
 obtain ⟨tx,htx⟩:∃ x,x=ba (figT ⟨p1,p2,p3,p4,p5⟩):=⟨_,rfl⟩
 rw [← htx] at F3 z3 HT
 clear h1 h2 h3 hg htx
 obtain ⟨W0,hW⟩:∃ W,W=(w.alloc (.cells #[.int .i64 m,.int .i64 tn,.int .i64 p1,.int .i64 p2,.int .i64 p3,.int .i64 p4,.int .i64 p5] 170)).drew:=⟨_,rfl⟩
 have hB0:Below w.heap.size w W0:=by rw [hW];exact ((Below.refl _ _).alloc (Nat.le_refl _) _).trans ((below_drew _).mono (by simp))
 have g0:W0.cell? ⟨w.heap.size,0,none⟩=some (.int .i64 m):=by rw [hW];simp
 have g1:W0.cell? ⟨w.heap.size,1,none⟩=some (.int .i64 tn):=by rw [hW];simp
 have g2:W0.cell? ⟨w.heap.size,2,none⟩=some (.int .i64 p1):=by rw [hW];simp
 have g3:W0.cell? ⟨w.heap.size,3,none⟩=some (.int .i64 p2):=by rw [hW];simp
 have g4:W0.cell? ⟨w.heap.size,4,none⟩=some (.int .i64 p3):=by rw [hW];simp
 have g5:W0.cell? ⟨w.heap.size,5,none⟩=some (.int .i64 p4):=by rw [hW];simp
 have g6:W0.cell? ⟨w.heap.size,6,none⟩=some (.int .i64 p5):=by rw [hW];simp
 have f0:=fun n:Up W0=>n.cell g0
 have f1:=fun n:Up W0=>n.cell g1
 have f2:=fun n:Up W0=>n.cell g2
 have f3:=fun n:Up W0=>n.cell g3
 have f4:=fun n:Up W0=>n.cell g4
 have f5:=fun n:Up W0=>n.cell g5
 have f6:=fun n:Up W0=>n.cell g6
 clear g0 g1 g2 g3 g4 g5 g6
 go_enter Tryz.func124,Tryz.ntmps124
 go_wp2_with fail
 refine wp_region_mix [(true,0),(true,1),(true,5),(true,6),(true,9),(true,10),(false,2),(true,3),(true,4),(false,7),(true,8),(false,11),(true,12),(true,13)] (by kernel_rfl) (by kernel_rfl) ?_
 rw [← hW]
 clear hW
 repeat (refine mix_q rfl ?_;go_big_quiet_step (fail);refine wpQuiet_nil ?_)
 refine mix_n rfl ?_
 go_wp2_with fail
 refine (I1 _ (HG.out.below hB0)).mono ?_
 rintro e W1 ⟨rfl,hb1⟩
 have hB1:=hB0.trans (hb1.mono hB0.size)
 go_wp2_with fail
 refine ⟨rfl,hb1,?_⟩
 repeat (refine mix_q rfl ?_;go_big_quiet_step (fail);refine wpQuiet_nil ?_)
 refine mix_n rfl ?_
 go_wp2_with fail
 refine (I2 _ (HG.out.below hB1)).mono ?_
 rintro e W2 ⟨rfl,hb2⟩
 have hB2:=hB1.trans (hb2.mono hB1.size)
 go_wp2_with fail
 refine ⟨rfl,hb2,?_⟩
 repeat (refine mix_q rfl ?_;go_big_quiet_step (fail);refine wpQuiet_nil ?_)
 refine mix_n rfl ?_
 go_wp2_with fail
 refine (F3 _).mono ?_
 rintro e W3 ⟨rfl,hb3⟩
 have hB3:=hB2.trans (hb3.mono hB2.size)
 go_wp2_with fail
 refine ⟨rfl,hb3,?_⟩
 repeat (refine mix_q rfl ?_;go_big_quiet_step (fail);refine wpQuiet_nil ?_)
 refine mix_nil ?_
 go_wp2
 go_ret
 exact ⟨congrArg (fun s=>Ending.returned (.string s)) HT.out,hB3⟩
end Go.Proofs.YtbleojodidbhiaaGreatDoor
namespace Go.Proofs.YtbleojodidbhiaaGreatDoor
open Go.RowKit Go.Lib
open Go.Sort hiding Below
set_option maxHeartbeats 6400000 in
set_option maxRecDepth 100000 in
theorem iuint_any (u:Nat) (hu64:u < 18446744073709551616) (w:World) (htab:Lib.TabIs Tryz.prog w "internal/strconv.uint64pow10" .u64 Lib.pow10Tab) :
  Calls Tryz.prog 187 #[.int .u64 u,.int .i64 10] w fun e w'=>e = .returned (.string ⟨(Lib.itoa u).toArray⟩)∧Below w.heap.size w w':=by
 by_cases hs:u < 100
 ·have hS:=Tryz.internal_strconv_small u hs w
  have hw:IntKind.i64.wrap (u:Int)=u:=by rw [IntKind.wrap_i64];omega
  go_enter Tryz.func187,Tryz.ntmps187
  go_wp2_with fail
  refine hS.mono ?_
  rintro e w' ⟨rfl,rfl⟩
  go_wp2
  go_ret
  refine ⟨?_,Below.refl _ _⟩
  rw [Lib.itoa_nonneg]
  rfl
 ·have hu1:1≤u:=by omega
  have hnd20:Lib.nDigits u≤20:=by have:=Lib.numDigits_eq u hu1 hu64;split at this <;> omega
  have hal:Tryz.prog.arrayLen 195=24:=by kernel_rfl
  have hsl1:∀ W,(Instr.sliceAt 195 (.pointer (some ⟨w.heap.size,0,none⟩)) none (some (.int .i64 (Lib.nDigits u:Int))) none).run Tryz.prog W = .ok (.slice (some ⟨w.heap.size,0,none⟩) (Lib.nDigits u) 24) W:=fun W=>by
   rw [run_sliceAt_array_h W 195 ⟨w.heap.size,0,none⟩ (by kernel_rfl) .i64 (Lib.nDigits u:Int) (by omega) (by rw [hal];omega)]
   go_simp
   try omega
  have hH0:=Lib.holds_zero0 w 195 (Lib.nDigits u) (by omega)
  have hfmt:=Tryz.internal_strconv_formatBase10 w.heap.size 0 24 u (Array.replicate (Lib.nDigits u) 0) (w.alloc (.cells Lib.zeros24 195)) hH0 (by rw [Array.size_replicate];exact Lib.lt_pow_nDigits u) hu64 (by rw [Array.size_replicate];omega)
  rw [Array.size_replicate] at hfmt
  have HH0:=Lib.hid hH0
  have hND:=Tryz.internal_strconv_numDigits u hu1 hu64 (w.alloc (.cells Lib.zeros24 195)) (Lib.tabIs_alloc htab _)
  clear hH0 hal htab
  go_enter Tryz.func187,Tryz.ntmps187
  go_wp2_with fail
  refine hND.mono ?_
  rintro e w' ⟨rfl,rfl⟩
  go_wp2_with fail
  refine hfmt.mono ?_
  rintro e w' ⟨rfl,k,v',dk,rfl,hF⟩
  have hcv:(convert 62 9 (.slice (some ⟨w.heap.size,0,none⟩) (Lib.nDigits u) 24)).run Tryz.prog ((putRow (fun (b:UInt8)=>Value.int .u8 (b.toNat:Int)) (w.alloc (.cells Lib.zeros24 195)) w.heap.size 0 dk).drewN k) = .ok (.string ⟨(Lib.decDigits u).toArray⟩) ((putRow (fun (b:UInt8)=>Value.int .u8 (b.toNat:Int)) (w.alloc (.cells Lib.zeros24 195)) w.heap.size 0 dk).drewN k):=by
   have h:=run_convert_bytes_back (P:=Tryz.prog) ((putRow (fun (b:UInt8)=>Value.int .u8 (b.toNat:Int)) (w.alloc (.cells Lib.zeros24 195)) w.heap.size 0 dk).drewN k) 62 9 5 ⟨w.heap.size,0,none⟩ 24 (Lib.decDigits u) (by kernel_rfl) (by kernel_rfl) (by kernel_rfl) (fun j hj=>by
    rw [Lib.row_is_numeral hF j hj,Lib.add_plain,World.cell?_drewN]
    exact cell?_putRow (fun (b:UInt8)=>Value.int .u8 (b.toNat:Int)) _ w.heap.size 0 _ dk HH0.out (by rw [hF.size,Array.size_replicate]) j (by rw [hF.size];rw [Lib.decDigits_length] at hj;exact hj))
   rw [Lib.decDigits_length] at h
   exact h
  go_wp2
  go_ret
  refine ⟨?_,?_⟩
  ·rw [Lib.itoa_nonneg]
   rfl
  ·rw [alloc_eq_grow]
   obtain ⟨os',_,e⟩:=putRow_grow_new (fun (b:UInt8)=>Value.int .u8 (b.toNat:Int)) w #[.cells Lib.zeros24 195] w.heap.size 0 dk (Nat.le_refl _)
   rw [e]
   exact Lib.below_grow (w:=w) _ (Nat.le_refl _) _ _
set_option maxHeartbeats 1000000 in
theorem fuint_any (u:Nat) (hu64:u < 18446744073709551616) (w:World) (hg:GlobN w) :
  Calls Tryz.prog 137 #[.int .u64 u,.int .i64 10] w fun e w'=>e = .returned (.string (eb (Lib.itoa u)))∧Below w.heap.size w w':=by
 have hI:=iuint_any u hu64 w hg.tab
 clear hg
 go_enter Tryz.func137,Tryz.ntmps137
 go_wp2_with fail
 refine hI.mono ?_
 rintro e w' ⟨rfl,hb⟩
 clear hI
 go_wp2
 go_ret
 exact ⟨rfl,hb⟩
end Go.Proofs.YtbleojodidbhiaaGreatDoor
set_option linter.unusedVariables false
namespace Go.Proofs.YtbleojodidbhiaaGreatDoor
open Go.RowKit
set_option maxRecDepth 20000 in
set_option maxHeartbeats 4000000 in
theorem dhelp_any {w:World} {B cb ph:Nat} {sv cv:Value} {h:Hs} (a:DkAt w B cb ph sv cv h) (ho:HsOk h) (hn:h.ls.length≤10000) (hg:GroundD B w) (ws:List (List UInt8)) (v:Value) (hw:WsAt w v ws) (hl:ws.length≤100000) (hj:(joinB ws).length≤100000) :
  Calls Tryz.prog 76 #[.pointer (some ⟨cb,0,none⟩),v] w (DkP w B cb ph sv cv (helpA h ws)):=by
 have hz:∀ t ∈ ws,t.length≤100000:=fun t ht=>Nat.le_trans (mem_join ht) hj
 clear hl hj
 by_cases hk:ws.length=0
 rotate_left
 ·have e:helpA h ws=anE h 3:=by
   unfold helpA
   split
   ·exact absurd rfl hk
   ·rfl
  rw [e]
  obtain ⟨ad,cap,rfl,-,-⟩:=hw
  have hC:=dcount_bad ad ws.length cap 0 w (by omega)
  unfold thr at hC
  have HP:=hidE (fun W' (hb:Below w.heap.size w W')=>DkP.err (c:=3) a hb (by decide))
  clear a ho hg e hz hn
  go_enter Tryz.func76,Tryz.ntmps76
  go_wp2_with fail
  refine hC.mono ?_
  rintro x w1 ⟨rfl,hw1⟩
  subst w1
  clear hC
  go_wp2
  exact ⟨rfl,HP.out _ (Below.refl _ _)⟩
 obtain rfl:ws=[]:=List.eq_nil_of_length_eq_zero hk
 obtain ⟨ad,cap,rfl,-,-⟩:=hw
 have hC:=dcount_ok ad 0 cap 0 w rfl
 have HP:=hidE (fun W' (hb:Below w.heap.size w W')=>DkP.same (t:=dKnown) a hb)
 rw [show ba dKnown=⟨#[97,116,32,99,104,97,110,103,101,32,99,108,111,115,101,32,99,108,111,115,101,100,32,99,111,114,114,101,99,116,32,100,97,121,32,101,118,101,110,116,115,32,104,101,108,112,32,104,105,115,116,111,114,121,32,109,111,118,101,115,32,109,111,110,116,104,115,32,111,112,101,110,32,112,111,115,116,32,115,117,109,32,116,101,97,114,32,116,114,105,97,108,32,116,117,114,110,32,118,111,105,100]⟩ from rfl] at HP
 show Calls _ _ _ _ (DkP w B cb ph sv cv ⟨dKnown,0,h⟩)
 clear a ho hg hk hz hn
 go_enter Tryz.func76,Tryz.ntmps76
 go_wp2_with fail
 refine hC.mono ?_
 rintro x w1 ⟨rfl,hw1⟩
 subst w1
 clear hC
 go_wp2
 go_ret
 exact HP.out _ (Below.refl _ _)
set_option maxRecDepth 20000 in
set_option maxHeartbeats 4000000 in
theorem dturn_any {w:World} {B cb ph:Nat} {sv cv:Value} {h:Hs} (a:DkAt w B cb ph sv cv h) (ho:HsOk h) (hn:h.ls.length≤10000) (hg:GroundD B w) (ws:List (List UInt8)) (v:Value) (hw:WsAt w v ws) (hl:ws.length≤100000) (hj:(joinB ws).length≤100000) :
  Calls Tryz.prog 85 #[.pointer (some ⟨cb,0,none⟩),v] w (DkP w B cb ph sv cv (turnA h ws)):=by
 have hz:∀ t ∈ ws,t.length≤100000:=fun t ht=>Nat.le_trans (mem_join ht) hj
 clear hl hj
 by_cases hk:ws.length=0
 rotate_left
 ·have e:turnA h ws=anE h 3:=by
   unfold turnA
   split
   ·exact absurd rfl hk
   ·rfl
  rw [e]
  obtain ⟨ad,cap,rfl,-,-⟩:=hw
  have hC:=dcount_bad ad ws.length cap 0 w (by omega)
  unfold thr at hC
  have HP:=hidE (fun W' (hb:Below w.heap.size w W')=>DkP.err (c:=3) a hb (by decide))
  clear a ho hg e hz hn
  go_enter Tryz.func85,Tryz.ntmps85
  go_wp2_with fail
  refine hC.mono ?_
  rintro x w1 ⟨rfl,hw1⟩
  subst w1
  clear hC
  go_wp2
  exact ⟨rfl,HP.out _ (Below.refl _ _)⟩
 obtain rfl:ws=[]:=List.eq_nil_of_length_eq_zero hk
 obtain ⟨ad,cap,rfl,-,-⟩:=hw
 have hC:=dcount_ok ad 0 cap 0 w rfl
 have HP:=hidE (fun W' (hb:Below w.heap.size w W')=>DkP.same (t:=turnT h) a hb)
 show Calls _ _ _ _ (DkP w B cb ph sv cv ⟨turnT h,0,h⟩)
 have cc:=a.cc
 have hT:=turn_any a.hs.bk
 have hbn:=ho.n
 have hb0:=ho.inv.n0
 have hI:=itoaN h.bk.n w hg.glob.h.ev.num (by omega) (by omega)
 have z:=itoaZ h.bk.n (by omega) (by omega)
 have HT:Hid ((⟨#[116,117,114,110,32]⟩:ByteArray) ++ eb (Lib.itoa h.bk.n)=ba (turnT h)):=by
  show _=_
  apply dba_ext
  simp [turnT,dTurn,ba_data,eb_list]
 clear a ho hg hk hz hn hbn hb0
 go_enter Tryz.func85,Tryz.ntmps85
 go_wp2_with fail
 refine hC.mono ?_
 rintro x w1 ⟨rfl,hw1⟩
 subst w1
 clear hC
 go_wp2_with fail
 refine hT.mono ?_
 rintro x w2 ⟨rfl,hw2⟩
 subst w2
 clear hT
 go_wp2_with fail
 refine hI.mono ?_
 rintro x w3 ⟨rfl,hb3⟩
 clear hI
 go_wp2
 go_ret
 rw [HT.out]
 exact HP.out _ hb3
set_option maxRecDepth 20000 in
set_option maxHeartbeats 4000000 in
theorem dday_any {w:World} {B cb ph:Nat} {sv cv:Value} {h:Hs} (a:DkAt w B cb ph sv cv h) (ho:HsOk h) (hn:h.ls.length≤10000) (hg:GroundD B w) (ws:List (List UInt8)) (v:Value) (hw:WsAt w v ws) (hl:ws.length≤100000) (hj:(joinB ws).length≤100000) :
  Calls Tryz.prog 74 #[.pointer (some ⟨cb,0,none⟩),v] w (DkP w B cb ph sv cv (dayA h ws)):=by
 have hz:∀ t ∈ ws,t.length≤100000:=fun t ht=>Nat.le_trans (mem_join ht) hj
 clear hl hj
 by_cases hk:ws.length=1
 rotate_left
 ·have e:dayA h ws=anE h 3:=by
   unfold dayA
   split
   ·exact absurd rfl hk
   ·rfl
  rw [e]
  obtain ⟨ad,cap,rfl,-,-⟩:=hw
  have hC:=dcount_bad ad ws.length cap 1 w (by omega)
  unfold thr at hC
  have HP:=hidE (fun W' (hb:Below w.heap.size w W')=>DkP.err (c:=3) a hb (by decide))
  clear a ho hg e hz hn
  go_enter Tryz.func74,Tryz.ntmps74
  go_wp2_with fail
  refine hC.mono ?_
  rintro x w1 ⟨rfl,hw1⟩
  subst w1
  clear hC
  go_wp2
  exact ⟨rfl,HP.out _ (Below.refl _ _)⟩
 obtain ⟨t0,rfl⟩:∃ t0,ws=[t0]:=by
  match ws,hk with
  | [x],_=>exact ⟨x,rfl⟩
 obtain ⟨ad,cap,rfl,-,hx | ⟨bk,o,rfl,lt,c⟩⟩:=hw
 ·cases hx
 have c0:w.cell? ⟨bk,o + 0,none⟩=some (.string (ba t0)):=c 0 t0 rfl
 have z0:(ba t0).size≤100000:=by rw [ba_size];exact hz t0 (by simp)
 clear c hz
 rw [Nat.add_zero] at c0
 have hC:=dcount_ok (some ⟨bk,o,none⟩) 1 cap 1 w rfl
 have HG:=hidE hg
 rcases hd:dparsed t0 with _ | n
 ·have e:dayA h [t0]=anE h 3:=by unfold dayA;simp only [hd]
  rw [e]
  have HP:=hidE (fun W' (hb:Below w.heap.size w W')=>DkP.err (c:=3) a hb (by decide))
  have hD:=ddate_bad (ba t0) w hg.glob.h.ev.len hg.glob.er (by unfold maxLen;omega) (by rw [ba_data];exact hd)
  unfold thr at hD
  clear a ho hg hk hn e hd
  go_enter Tryz.func74,Tryz.ntmps74
  go_wp2_with fail
  refine hC.mono ?_
  rintro x w1 ⟨rfl,hw1⟩
  subst w1
  clear hC
  go_wp2_with fail
  refine hD.mono ?_
  rintro x w2 ⟨rfl,hb2⟩
  clear hD
  go_wp2
  exact ⟨rfl,HP.out _ hb2⟩
 ·have e:dayA h [t0]=⟨dayT n,0,h⟩:=by unfold dayA;simp only [hd]
  rw [e]
  have HP:=hidE (fun W' (hb:Below w.heap.size w W')=>DkP.same (t:=dayT n) a hb)
  have hbd:=dparsed_some hd
  have hD:=ddate_ok (ba t0) n w hg.glob.h.ev.len (by rw [ba_data];exact hd)
  have hM:=fun (W:World) (hW:LenTab W)=>dmonth_ok n W hW hbd.2.1 hbd.2.2.1
  have hkb:=dK_le hbd.2.1 hbd.2.2.1
  have hI1:=fun W hW=>itoaN n W hW (by omega) (by omega)
  have hI2:=fun W hW=>itoaN (dK n:Int) W hW (by omega) (by omega)
  have y1:=itoaZ n (by omega) (by omega)
  have y2:=itoaZ (dK n:Int) (by omega) (by omega)
  have HT:Hid ((⟨#[100,97,121,32]⟩:ByteArray) ++ eb (Lib.itoa n) ++ ⟨#[32]⟩ ++ eb (Lib.itoa (dK n:Int))=ba (dayT n)):=by
   show _=_
   apply dba_ext
   simp [dayT,dDay,ba_data,eb_list]
  obtain ⟨m,hm⟩:∃ m:Int,m=(dK n:Int):=⟨_,rfl⟩
  rw [← hm] at hM hI2 y2 HT
  clear a ho hg hk hn e hd hbd hkb hm
  go_enter Tryz.func74,Tryz.ntmps74
  go_wp2_with fail
  refine hC.mono ?_
  rintro x w1 ⟨rfl,hw1⟩
  subst w1
  clear hC
  go_wp2_with fail
  refine hD.mono ?_
  rintro x w2 ⟨rfl,hb2⟩
  have HG2:=hidE (HG.out.below hb2)
  have hm2:=hM w2 HG2.out.glob.h.ev.len
  have hc2:=dcheck_nil w2
  clear hD hM
  go_wp2_with fail
  refine hm2.mono ?_
  rintro x w3 ⟨rfl,hw3⟩
  subst w3
  clear hm2
  go_wp2_with fail
  refine hc2.mono ?_
  rintro x w3 ⟨rfl,hw3⟩
  subst w3
  have hi1:=hI1 w2 HG2.out.glob.h.ev.num
  clear hc2 hI1
  go_wp2_with fail
  refine hi1.mono ?_
  rintro x w3 ⟨rfl,hb3⟩
  have hi2:=hI2 w3 (HG2.out.below hb3).glob.h.ev.num
  clear hi1 hI2
  go_wp2_with fail
  refine hi2.mono ?_
  rintro x w4 ⟨rfl,hb4⟩
  have hB3:=hb2.trans (hb3.mono hb2.size)
  clear hi2
  go_wp2
  go_ret
  rw [HT.out]
  exact HP.out _ (hB3.trans (hb4.mono hB3.size))
set_option maxRecDepth 20000 in
set_option maxHeartbeats 4000000 in
theorem dsum_any {w:World} {B cb ph:Nat} {sv cv:Value} {h:Hs} (a:DkAt w B cb ph sv cv h) (ho:HsOk h) (hn:h.ls.length≤10000) (hg:GroundD B w) (ws:List (List UInt8)) (v:Value) (hw:WsAt w v ws) (hl:ws.length≤100000) (hj:(joinB ws).length≤100000) :
  Calls Tryz.prog 82 #[.pointer (some ⟨cb,0,none⟩),v] w (DkP w B cb ph sv cv (sumA h ws)):=by
 have hJ:=joinW ws v w hw (by omega) (by omega)
 obtain ⟨ad,cap,rfl,-,-⟩:=hw
 have hS:=fun W=>jsum_any (ba (joinB ws)) W (by rw [ba_size];omega)
 rw [ba_data] at hS
 have hlt:sumL (joinB ws) < 4294967296:=sumL_lt _
 have hF:=fun W hW=>fuint_any (sumL (joinB ws)) (by omega) W hW
 have HG:=hidE hg
 have HP:=hidE (fun W' (hb:Below w.heap.size w W')=>DkP.same (t:=sumT (joinB ws)) a hb)
 show Calls _ _ _ _ (DkP w B cb ph sv cv ⟨sumT (joinB ws),0,h⟩)
 have y1:=itoaZ (sumL (joinB ws):Nat) (by omega) (by omega)
 have HT:Hid ((⟨#[115,117,109,32]⟩:ByteArray) ++ eb (Lib.itoa (sumL (joinB ws):Nat))=ba (sumT (joinB ws))):=by
  show _=_
  apply dba_ext
  simp [sumT,dSum,ba_data,eb_list]
 obtain ⟨s,hs⟩:∃ s,s=sumL (joinB ws):=⟨_,rfl⟩
 rw [← hs] at hS hlt hF y1 HT
 have hwr:IntKind.u64.wrap (s:Int)=s:=by rw [IntKind.wrap_u64];omega
 clear a ho hg hn hs
 go_enter Tryz.func82,Tryz.ntmps82
 go_wp2_with fail
 refine hJ.mono ?_
 rintro x w1 ⟨rfl,hb1⟩
 have hs1:=hS w1
 clear hJ hS
 go_wp2_with fail
 refine hs1.mono ?_
 rintro x w2 ⟨rfl,hw2⟩
 subst w2
 have hf1:=hF w1 (HG.out.below hb1).glob.h.ev.num
 clear hs1 hF
 go_wp2_with fail
 refine hf1.mono ?_
 rintro x w3 ⟨rfl,hb3⟩
 clear hf1
 go_wp2
 go_ret
 rw [HT.out]
 exact HP.out _ (hb1.trans (hb3.mono hb1.size))
set_option maxHeartbeats 2000000 in
theorem dunposted_any {w:World} {B cb ph:Nat} {sv cv:Value} {h:Hs} (a:DkAt w B cb ph sv cv h) (ho:HsOk h) (hg:GroundD B w) :
  Calls Tryz.prog 136 #[.pointer (some ⟨cb,0,none⟩)] w fun e w'=>e = .returned (figV (opF h))∧Below w.heap.size w w':=by
 obtain ⟨W0,hW0⟩:∃ W,W=(w.alloc (.cells #[.int .i64 0,.int .i64 0,.int .i64 0,.int .i64 0,.int .i64 0] 151)).drew:=⟨_,rfl⟩
 have hb0:Below w.heap.size w W0:=by rw [hW0];exact ((Below.refl _ _).alloc (Nat.le_refl _) _).trans ((below_drew _).mono (by simp))
 have hR0:FigAt W0 w.heap.size fig0:=by rw [hW0];exact (fig_new w).same rfl
 have a0:=a.below hb0
 have hO:=open_any a0.hs.pr a0.hs.bk ho.inv (hg.below hb0).glob.h.ev.len (by have:=ho.cs;omega)
 have cc:=a0.cc
 have f0:=fun n:Up W0=>n.cell cc
 obtain ⟨F,hF⟩:∃ F,F=opF h:=⟨_,rfl⟩
 rw [show unp (untl (srt (asOf h.bk h.bk.n)) 3300) h.cs=opF h from rfl,← hF] at hO
 rw [← hF]
 obtain ⟨X1,X2,X3,X4,X5⟩:=F
 have HW0:Hid (W0=_):=hW0
 have hU:=up_ne
 have hA:=anyW_ne
 clear a ho hg hF hW0 a0 cc
 go_enter Tryz.func136,Tryz.ntmps136
 go_wp2_with fail
 refine wp_region_turn [(.pure,0),(.pure,1),(.pure,2),(.read,3),(.pure,4),(.pure,5),(.pure,6),(.pure,7),(.pure,8),(.read,9),(.pure,10),(.pure,11),(.make,12),(.turn,13)] (by kernel_rfl) (by kernel_rfl) ?_
 rw [← HW0.out]
 repeat (first | refine turn_p rfl ?_ | refine turn_q rfl ?_);go_big_quiet_step (fail);refine wpQuiet_nil ?_
 refine turn_n rfl ?_
 go_wp2_with fail
 refine hO.mono ?_
 rintro r w2 ⟨rfl,hb2⟩
 have hR:=hR0.below hb2
 have d0:=hR.c0
 have d1:=hR.c1
 have d2:=hR.c2
 have d3:=hR.c3
 have d4:=hR.c4
 have e0:=hR.z0
 have e1:=hR.z1
 have e2:=hR.z2
 have e3:=hR.z3
 have e4:=hR.z4
 have HG:=(hR.put ⟨X1,X2,X3,X4,X5⟩)
 have hBF:Below w.heap.size w (set5 w2 w.heap.size ⟨X1,X2,X3,X4,X5⟩):=by
  have hB:=hb0.trans (hb2.mono hb0.size)
  refine ⟨(set5_oth _ _ _).1.trans hB.os,(set5_oth _ _ _).2.1.trans hB.tape,(set5_oth _ _ _).2.2.trans hB.output,?_,fun j hj=>?_⟩
  ·rw [set5_size];exact hB.size
  ·rw [set5_other _ _ _ (by omega)]
   exact hB.block j hj
 have g0:=HG.c0
 have g1:=HG.c1
 have g2:=HG.c2
 have g3:=HG.c3
 have g4:=HG.c4
 unfold set5 at g0 g1 g2 g3 g4
 simp only [fig0] at d0 d1 d2 d3 d4
 simp only at g0 g1 g2 g3 g4
 have HBF:Hid _:=hBF
 unfold figV
 simp only
 clear hR HG hBF hR0 hO f0
 go_wp2_with fail
 refine ⟨rfl,hb2,?_⟩
 refine turn_t rfl ?_
 go_wp2_with fail
 refine ⟨rfl,?_⟩
 refine turn_nil ?_
 go_wp2
 refine bodyPost_ret (v:=.agg #[.int .i64 X1,.int .i64 X2,.int .i64 X3,.int .i64 X4,.int .i64 X5]) (by simp [results,Tryz.results136,go_sem, *]) rfl ⟨rfl,?_⟩
 exact HBF.out
theorem opF_ok (h:Hs):(opF h).ok:=unp_ok _ _ (untl_ok _ _)
set_option maxRecDepth 20000 in
set_option maxHeartbeats 4000000 in
theorem dopen_any {w:World} {B cb ph:Nat} {sv cv:Value} {h:Hs} (a:DkAt w B cb ph sv cv h) (ho:HsOk h) (hn:h.ls.length≤10000) (hg:GroundD B w) (ws:List (List UInt8)) (v:Value) (hw:WsAt w v ws) (hl:ws.length≤100000) (hj:(joinB ws).length≤100000) :
  Calls Tryz.prog 80 #[.pointer (some ⟨cb,0,none⟩),v] w (DkP w B cb ph sv cv (openA h ws)):=by
 have hz:∀ t ∈ ws,t.length≤100000:=fun t ht=>Nat.le_trans (mem_join ht) hj
 clear hl hj
 by_cases hk:ws.length=0
 rotate_left
 ·have e:openA h ws=anE h 3:=by
   unfold openA
   split
   ·exact absurd rfl hk
   ·rfl
  rw [e]
  obtain ⟨ad,cap,rfl,-,-⟩:=hw
  have hC:=dcount_bad ad ws.length cap 0 w (by omega)
  unfold thr at hC
  have HP:=hidE (fun W' (hb:Below w.heap.size w W')=>DkP.err (c:=3) a hb (by decide))
  clear a ho hg e hz hn
  go_enter Tryz.func80,Tryz.ntmps80
  go_wp2_with fail
  refine hC.mono ?_
  rintro x w1 ⟨rfl,hw1⟩
  subst w1
  clear hC
  go_wp2
  exact ⟨rfl,HP.out _ (Below.refl _ _)⟩
 obtain rfl:ws=[]:=List.eq_nil_of_length_eq_zero hk
 obtain ⟨ad,cap,rfl,-,-⟩:=hw
 have hC:=dcount_ok ad 0 cap 0 w rfl
 have HP:=hidE (fun W' (hb:Below w.heap.size w W')=>DkP.same (t:=openT h) a hb)
 show Calls _ _ _ _ (DkP w B cb ph sv cv ⟨openT h,0,h⟩)
 have hU:=dunposted_any a ho hg
 have hF:=fun W=>dfigures_any (opF h) W (opF_ok h)
 have y1:(ba (figT (opF h))).size≤130:=by
  rw [ba_size,← fig_is]
  refine figP_len _ fun n hn=>?_
  have h3:=opF_ok h
  simp only [fig5,List.mem_cons,List.not_mem_nil,or_false] at hn
  rcases hn with rfl | rfl | rfl | rfl | rfl
  ·exact h3.inn
  ·exact h3.out
  ·exact h3.loss
  ·exact h3.gain
  ·exact h3.late
 have HT:Hid ((⟨#[111,112,101,110]⟩:ByteArray) ++ ba (figT (opF h))=ba (openT h)):=by
  show _=_
  apply dba_ext
  simp [openT,dOpen,ba_data]
 obtain ⟨tx,htx⟩:∃ x,x=ba (figT (opF h)):=⟨_,rfl⟩
 rw [← htx] at hF y1 HT
 obtain ⟨F,hFF⟩:∃ F,F=opF h:=⟨_,rfl⟩
 rw [← hFF] at hU hF
 obtain ⟨f1,f2,f3,f4,f5⟩:=F
 unfold figV at hU hF
 clear a ho hg hk hz hn htx hFF
 go_enter Tryz.func80,Tryz.ntmps80
 go_wp2_with fail
 refine hC.mono ?_
 rintro x w1 ⟨rfl,hw1⟩
 subst w1
 clear hC
 go_wp2_with fail
 refine hU.mono ?_
 rintro x w2 ⟨rfl,hb2⟩
 have hf2:=hF w2
 clear hU hF
 go_wp2_with fail
 refine hf2.mono ?_
 rintro x w3 ⟨rfl,hb3⟩
 clear hf2
 go_wp2
 go_ret
 rw [HT.out]
 exact HP.out _ (hb2.trans (hb3.mono hb2.size))
end Go.Proofs.YtbleojodidbhiaaGreatDoor
