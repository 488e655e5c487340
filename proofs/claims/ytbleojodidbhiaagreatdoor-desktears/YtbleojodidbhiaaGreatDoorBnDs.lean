/-  -/
import Derived.Test.YtbleojodidbhiaaGreatDoorBnDm
import Derived.Test.YtbleojodidbhiaaGreatDoorBnHd
import Derived.Test.YtbleojodidbhiaaGreatDoorBnErr
import Derived.Test.YtbleojodidbhiaaGreatDoorBnHm
import Derived.Lib.ItoaLen
import Derived.Test.YtbleojodidbhiaaGreatDoorBnShb
import Derived.Test.YtbleojodidbhiaaGreatDoorBnB
import Derived.Lib.Join
import Derived.WideMake
namespace Go.Proofs.YtbleojodidbhiaaGreatDoor
open Go.RowKit
structure DkAt (w:World) (B cb ph:Nat) (sv cv:Value) (h:Hs):Prop where
 hs:HsAt w B ph sv cv h
 cc:w.cell? ⟨cb,0,none⟩=some (.pointer (some ⟨ph,0,none⟩))
 cf:w.frozen? ⟨cb,0,none⟩=false
 ge:B≤cb
 ne:¬ Mine ph sv cv cb
structure DTurn (w w':World) (cb ph:Nat) (sv cv:Value) (ph':Nat) (sv' cv':Value):Prop where
 os:w'.os=w.os
 tape:w'.tape=w.tape
 output:w'.output=w.output
 size:w.heap.size≤w'.heap.size
 block:∀ k,k < w.heap.size→k ≠ cb→¬ Mine ph sv cv k→w'.heap[k]?=w.heap[k]?
 fresh:∀ k,Mine ph' sv' cv' k→Mine ph sv cv k∨w.heap.size≤k
section
variable {w w' w'' w0:World} {B cb ph ph' ph'':Nat} {sv cv sv' cv' sv'' cv'':Value} {h h':Hs}
theorem DkAt.lt (a:DkAt w B cb ph sv cv h):cb < w.heap.size:=World.block_lt_of_cell? _ _ a.cc
theorem DkAt.below (a:DkAt w B cb ph sv cv h) (hb:Below w.heap.size w w'):DkAt w' B cb ph sv cv h:=
 ⟨a.hs.below hb,(hb.cell (p:=⟨cb,0,none⟩) a.lt).trans a.cc,(hb.frozen (p:=⟨cb,0,none⟩) a.lt).trans a.cf,a.ge,a.ne⟩
theorem DTurn.of_below (hb:Below w.heap.size w w'):DTurn w w' cb ph sv cv ph sv cv:=⟨hb.os,hb.tape,hb.output,hb.size,fun k hk _ _=>hb.block k hk,fun _ hk=>Or.inl hk⟩
theorem DTurn.of_turn (t:HTurn w w' ph sv cv sv' cv'):DTurn w w' cb ph sv cv ph sv' cv':=⟨t.os,t.tape,t.output,t.size,fun k hk _ hn=>t.block k hk hn,t.fresh⟩
theorem DTurn.trans (t:DTurn w w' cb ph sv cv ph' sv' cv') (t':DTurn w' w'' cb ph' sv' cv' ph'' sv'' cv''):DTurn w w'' cb ph sv cv ph'' sv'' cv'':=
 ⟨t'.os.trans t.os,t'.tape.trans t.tape,t'.output.trans t.output,Nat.le_trans t.size t'.size,
  fun k hk hc hn=>(t'.block k (Nat.lt_of_lt_of_le hk t.size) hc (fun hm=>by
   rcases t.fresh k hm with x | x
   ·exact hn x
   ·omega)).trans (t.block k hk hc hn),
  fun k hk=>by
   rcases t'.fresh k hk with x | x
   ·exact t.fresh k x
   ·exact Or.inr (Nat.le_trans t.size x)⟩
theorem DkAt.turn (a:DkAt w B cb ph sv cv h) (H:HsAt w' B ph sv' cv' h') (t:HTurn w w' ph sv cv sv' cv'):DkAt w' B cb ph sv' cv' h':=by
 have e:w'.heap[cb]?=w.heap[cb]?:=t.block cb a.lt a.ne
 refine ⟨H,(World.cell?_of_block (a:=⟨cb,0,none⟩) e).trans a.cc,(World.frozen?_of_block (a:=⟨cb,0,none⟩) e).trans a.cf,a.ge,fun hm=>?_⟩
 rcases t.fresh cb hm with x | x
 ·exact a.ne x
 ·have:=a.lt;omega
theorem DTurn.below (t:DTurn w w' cb ph sv cv ph' sv' cv') (a:DkAt w B cb ph sv cv h) (hb:Below B w0 w) (hB:B≤w.heap.size):Below B w0 w':=
 hb.trans ⟨t.os,t.tape,t.output,t.size,fun k hk=>t.block k (by omega) (fun e=>by have:=a.ge;omega) (fun hm=>by have:=(a.hs.mine hm).1;omega)⟩
end
structure GlobD (w:World):Prop where
 h:GlobH w
 er:ErrType w
theorem GlobD.below {w w':World} (h:GlobD w) (hb:Below w.heap.size w w'):GlobD w':=⟨h.h.below hb,h.er.below hb⟩
def GroundD (B:Nat) (w:World):Prop:=∃ w0,GlobD w0∧w0.heap.size≤B∧Below w0.heap.size w0 w
section
variable {w w':World} {B cb ph ph':Nat} {sv cv sv' cv':Value} {h:Hs}
theorem GroundD.glob (g:GroundD B w):GlobD w:=by
 obtain ⟨w0,h0,_,hb⟩:=g
 exact h0.below hb
theorem GroundD.ground (g:GroundD B w):Ground B w:=by
 obtain ⟨w0,h0,h1,hb⟩:=g
 exact ⟨w0,h0.h,h1,hb⟩
theorem GroundD.below (g:GroundD B w) (hb:Below w.heap.size w w'):GroundD B w':=by
 obtain ⟨w0,h0,h1,hb0⟩:=g
 exact ⟨w0,h0,h1,hb0.trans (hb.mono hb0.size)⟩
theorem GroundD.turn (g:GroundD B w) (a:DkAt w B cb ph sv cv h) (t:DTurn w w' cb ph sv cv ph' sv' cv'):GroundD B w':=by
 obtain ⟨w0,h0,h1,hb0⟩:=g
 refine ⟨w0,h0,h1,hb0.trans ⟨t.os,t.tape,t.output,t.size,fun k hk=>t.block k (Nat.lt_of_lt_of_le hk hb0.size) (fun e=>by have:=a.ge;omega) (fun hm=>by have:=(a.hs.mine hm).1;omega)⟩⟩
end
def WsAt (w:World) (v:Value) (ws:List (List UInt8)):Prop:=
 ∃ ad cap,v = .slice ad ws.length cap∧ws.length≤cap∧(ws=[]∨∃ bk o,ad=some ⟨bk,o,none⟩∧bk < w.heap.size∧∀ j x,ws[j]?=some x→w.cell? ⟨bk,o + j,none⟩=some (.string (ba x)))
theorem WsAt.below {w w':World} {v:Value} {ws:List (List UInt8)} (h:WsAt w v ws) (hb:Below w.heap.size w w'):WsAt w' v ws:=by
 obtain ⟨ad,cap,e,hc,x⟩:=h
 refine ⟨ad,cap,e,hc,?_⟩
 rcases x with x | ⟨bk,o,e1,lt,c⟩
 ·exact Or.inl x
 ·exact Or.inr ⟨bk,o,e1,Nat.lt_of_lt_of_le lt hb.size,fun j y hj=>(hb.cell (p:=⟨bk,o + j,none⟩) lt).trans (c j y hj)⟩
def endA (R:An):Ending:=if R.c=0 then .returned (.string (ba R.told)) else .panicked [{ v:=.iface 69 (.int .i64 R.c),recovered:=false }]
def DkP (w:World) (B cb ph:Nat) (sv cv:Value) (R:An) (e:Ending) (w':World):Prop:=
 e=endA R∧∃ ph' sv' cv',DkAt w' B cb ph' sv' cv' R.h∧DTurn w w' cb ph sv cv ph' sv' cv'
theorem DkP.same {w w':World} {B cb ph:Nat} {sv cv:Value} {h:Hs} {t:List UInt8} (a:DkAt w B cb ph sv cv h) (hb:Below w.heap.size w w'):DkP w B cb ph sv cv ⟨t,0,h⟩ (.returned (.string (ba t))) w':=
 ⟨rfl,ph,sv,cv,a.below hb,DTurn.of_below hb⟩
theorem DkP.err {w w':World} {B cb ph:Nat} {sv cv:Value} {h:Hs} {c:Int} (a:DkAt w B cb ph sv cv h) (hb:Below w.heap.size w w') (hc:c ≠ 0):DkP w B cb ph sv cv (anE h c) (.panicked [{ v:=.iface 69 (.int .i64 c),recovered:=false }]) w':=
 ⟨by unfold endA anE;rw [if_neg hc],ph,sv,cv,a.below hb,DTurn.of_below hb⟩
end Go.Proofs.YtbleojodidbhiaaGreatDoor
namespace Go.Proofs.YtbleojodidbhiaaGreatDoor
open Go.RowKit
theorem itoaZ (n:Int) (h0 : -9223372036854775808≤n) (h1:n≤9223372036854775807):(eb (Lib.itoa n)).size≤21:=by
 have:=Lib.itoa_length_le n h0 h1
 simpa [eb,ByteArray.size] using this
def thr (c:Int):Ending:=.panicked [{ v:=.iface 69 (.int .i64 c),recovered:=false }]
set_option maxHeartbeats 1000000 in
theorem dcount_ok (ad:Option Addr) (n cap:Nat) (k:Int) (w:World) (h:(n:Int)=k) :
  Calls Tryz.prog 116 #[.slice ad n cap,.int .i64 k] w fun e w'=>e = .returned (.tuple #[])∧w'=w:=by
 subst h
 go_enter Tryz.func116,Tryz.ntmps116
 go_wp2
 go_end0
 exact ⟨rfl,rfl⟩
set_option maxHeartbeats 1000000 in
theorem dcount_bad (ad:Option Addr) (n cap:Nat) (k:Int) (w:World) (h:¬ (n:Int)=k) :
  Calls Tryz.prog 116 #[.slice ad n cap,.int .i64 k] w fun e w'=>e=thr 3∧w'=w:=by
 go_enter Tryz.func116,Tryz.ntmps116
 go_wp2
 exact ⟨rfl,rfl,rfl⟩
set_option maxHeartbeats 1000000 in
theorem dcheck_nil (w:World):Calls Tryz.prog 126 #[.nilIface] w fun e w'=>e = .returned (.tuple #[])∧w'=w:=by
 go_enter Tryz.func126,Tryz.ntmps126
 go_wp2
 go_end0
 exact ⟨rfl,rfl⟩
set_option maxHeartbeats 1000000 in
theorem dcheck_err (c:Int) (w:World) (hg:ErrType w):Calls Tryz.prog 126 #[.iface 69 (.int .i64 c)] w fun e w'=>e=thr c∧Below w.heap.size w w':=by
 have hT:=tell_errno c w hg
 clear hg
 go_enter Tryz.func126,Tryz.ntmps126
 go_wp2_with fail
 refine hT.mono ?_
 rintro e w1 ⟨rfl,hb⟩
 clear hT
 go_wp2
 exact ⟨rfl,rfl,hb⟩
set_option maxHeartbeats 1000000 in
theorem dwrong_any (c:Int) (w:World) (hg:GlobN w) (h0 : -9223372036854775808≤c) (h1:c≤9223372036854775807) :
  Calls Tryz.prog 36 #[.int .i64 c] w fun e w'=>e = .returned (.string (ba (dError ++ Lib.itoa c)))∧Below w.heap.size w w':=by
 have hI:=itoaN c w hg h0 h1
 have hz:=itoaZ c h0 h1
 have HE:Hid ((⟨#[101,114,114,111,114,32]⟩:ByteArray) ++ eb (Lib.itoa c)=ba (dError ++ Lib.itoa c)):=by
  show _=_
  apply dba_ext
  simp [ba_data,eb_list,dError]
 clear hg h0 h1
 go_enter Tryz.func36,Tryz.ntmps36
 go_wp2_with fail
 refine hI.mono ?_
 rintro e w1 ⟨rfl,hb⟩
 clear hI
 go_wp2
 go_ret
 exact ⟨by rw [HE.out];rfl,hb⟩
set_option maxHeartbeats 4000000 in
theorem dnum_ok (s:ByteArray) (v:Int) (w:World) (hg:GlobN w) (hs:s.size≤1000000) (h:numO s.data.toList=some v) :
  Calls Tryz.prog 118 #[.string s] w fun x w'=>x = .returned (.int .i64 v)∧Below w.heap.size w w':=by
 obtain ⟨h1,h2⟩:=numO_some h
 have hbd:=numO_bd h
 have hA:=atoiN s w hg (by omega)
 have HI:=fun (W:World) (hW:GlobN W)=>hidN (itoaN v W hW hbd.1 hbd.2)
 have he:eb (Lib.itoa v)=s:=by rw [h2];cases s;simp [eb]
 rw [he] at HI
 have HG:=hidN hg
 have H1:=hidN h1
 clear hg he h h1 h2 hbd
 go_enter Tryz.func118,Tryz.ntmps118
 go_wp2_with fail
 refine hA.mono ?_
 rintro x w1 ⟨⟨u,hu,rfl⟩ | ⟨u,tq,q,hu,rfl⟩,hb1⟩
 ·obtain rfl:u=v:=by
   have e:=hu.symm.trans H1.out
   injection e
  have hI:=(HI w1 (HG.out.below hb1)).out
  clear HI hu H1 hA
  go_wp2_with fail
  refine hI.mono ?_
  rintro x w2 ⟨rfl,hb2⟩
  clear hI
  go_wp2
  go_ret
  exact ⟨rfl,hb1.trans (hb2.mono hb1.size)⟩
 ·exact absurd H1.out (hu v)
set_option maxHeartbeats 4000000 in
theorem dnum_bad (s:ByteArray) (w:World) (hg:GlobN w) (hs:s.size≤1000000) (h:numO s.data.toList=none) :
  Calls Tryz.prog 118 #[.string s] w fun x w'=>x=thr 3∧Below w.heap.size w w':=by
 have hA:=atoiN s w hg (by omega)
 have HG:=hidN hg
 have HN:=hidN h
 clear hg h
 go_enter Tryz.func118,Tryz.ntmps118
 go_wp2_with fail
 refine hA.mono ?_
 rintro x w1 ⟨⟨u,hu,rfl⟩ | ⟨u,tq,q,hu,rfl⟩,hb1⟩
 ·have hbd:=Lib.atoiAll_bounds hu
  have hI:=itoaN u w1 (HG.out.below hb1) hbd.1 hbd.2
  obtain ⟨t,ht⟩:∃ t,t=eb (Lib.itoa u):=⟨_,rfl⟩
  have hc:(t.toList == s.toList)=false:=by
   rw [ht,eqlB_iff]
   apply decide_eq_false
   rw [show (eb (Lib.itoa u)).data.toList=Lib.itoa u by simp [eb]]
   exact numO_none HN.out hu
  rw [← ht] at hI
  clear hu hA ht hbd
  go_wp2_with fail
  refine hI.mono ?_
  rintro x w2 ⟨rfl,hb2⟩
  clear hI
  go_wp2
  exact ⟨rfl,rfl,hb1.trans (hb2.mono hb1.size)⟩
 ·clear hu hA
  go_wp2
  exact ⟨rfl,rfl,hb1⟩
set_option maxHeartbeats 1000000 in
theorem ddate_ok (s:ByteArray) (n:Int) (w:World) (hl:LenTab w) (h:dparsed s.data.toList=some n) :
  Calls Tryz.prog 117 #[.string s] w fun e w'=>e = .returned (.int .i64 n)∧Below w.heap.size w w':=by
 have hP:=dparse_ok s n w hl h
 clear h hl
 go_enter Tryz.func117,Tryz.ntmps117
 go_wp2_with fail
 refine hP.mono ?_
 rintro e w1 ⟨rfl,hb⟩
 have hC:=dcheck_nil w1
 clear hP
 go_wp2_with fail
 refine hC.mono ?_
 rintro e w2 ⟨rfl,hw⟩
 subst w2
 clear hC
 go_wp2
 go_ret
 exact ⟨rfl,hb⟩
set_option maxHeartbeats 1000000 in
theorem ddate_bad (s:ByteArray) (w:World) (hl:LenTab w) (hg:ErrType w) (hz:s.size≤maxLen) (h:dparsed s.data.toList=none) :
  Calls Tryz.prog 117 #[.string s] w fun e w'=>e=thr 3∧Below w.heap.size w w':=by
 have hP:=dparse_bad s w hl hz h
 have HG:=hidE hg
 clear h hl hg
 go_enter Tryz.func117,Tryz.ntmps117
 go_wp2_with fail
 refine hP.mono ?_
 rintro e w1 ⟨rfl,hb⟩
 have hC:=dcheck_err 3 w1 (HG.out.below hb)
 unfold thr at hC
 clear hP HG
 go_wp2_with fail
 refine hC.mono ?_
 rintro e w2 ⟨rfl,hb2⟩
 clear hC
 go_wp2
 exact ⟨rfl,rfl,hb.trans (hb2.mono hb.size)⟩
theorem join_is:∀ ws:List (List UInt8),Lib.join ws [32]=joinB ws
 | []=>rfl
 | [t]=>Lib.join_one t [32]
 | t :: u :: r=>by
  have ih:=join_is (u :: r)
  rw [joinB,← ih]
  simp [Lib.join,List.intercalate]
theorem map_ba (ws:List (List UInt8)):(ws.map ba).map (fun x:ByteArray=>x.data.toList)=ws:=by
 rw [List.map_map]
 conv=>rhs;rw [← List.map_id ws]
 exact List.map_congr_left fun x _=>ba_data x
theorem joinW (ws:List (List UInt8)) (v:Value) (w:World) (h:WsAt w v ws) (hl:ws.length≤1000000) (hj:(joinB ws).length≤1000000) :
  Calls Tryz.prog 11 #[v,.string ⟨#[32]⟩] w fun e w'=>e = .returned (.string (ba (joinB ws)))∧Below w.heap.size w w':=by
 obtain ⟨ad,cap,rfl,hc,hx | ⟨bk,o,rfl,lt,c⟩⟩:=h
 ·subst hx
  refine (Tryz.strings_Join_none ad cap ⟨#[32]⟩ w).mono ?_
  rintro e w' ⟨rfl,rfl⟩
  exact ⟨rfl,Below.refl _ _⟩
 ·have hJ:=Tryz.strings_Join bk o cap (ws.map ba) ⟨#[32]⟩ w (fun j x hj=>by
   rw [List.getElem?_map] at hj
   obtain ⟨y,hy,rfl⟩:=Option.map_eq_some_iff.1 hj
   exact c j y hy) lt (by rw [List.length_map];omega) (by rw [List.length_map];exact hc) (by rw [map_ba,show (⟨#[32]⟩:ByteArray).data.toList=[32] from rfl,join_is];omega)
  rw [List.length_map,map_ba,show (⟨#[32]⟩:ByteArray).data.toList=[32] from rfl,join_is] at hJ
  exact hJ
set_option maxRecDepth 20000 in
set_option maxHeartbeats 4000000 in
theorem ddo_any {w:World} {B cb ph:Nat} {sv cv:Value} {h:Hs} (a:DkAt w B cb ph sv cv h) (ho:HsOk h) (hn:h.ls.length≤10000) (hg:GroundD B w) (first:List UInt8) (ws:List (List UInt8)) (v:Value) (hw:WsAt w v ws) (hf:first.length≤100) (hl:ws.length≤100000) (hj:(joinB ws).length≤100000) :
  Calls Tryz.prog 122 #[.pointer (some ⟨cb,0,none⟩),.string (ba first),v] w (DkP w B cb ph sv cv (doA h first ws)):=by
 have HJ:=fun W hW=>joinW ws v W hW (by omega) (by omega)
 have HW:=hidE hw
 have cc:=a.cc
 obtain ⟨ad,cap,rfl,-,-⟩:=hw
 obtain ⟨W0,hW0⟩:∃ W,W=w.drew:=⟨_,rfl⟩
 have hb0:Below w.heap.size w W0:=by rw [hW0];exact below_drew _
 have hJ:=HJ W0 (HW.out.below hb0)
 have c0:W0.cell? ⟨cb,0,none⟩=some (.pointer (some ⟨ph,0,none⟩)):=(a.below hb0).cc
 have f0:=fun n:Up W0=>n.cell c0
 have hlen:(first ++ 32 :: joinB ws).length≤1000000:=by simp;omega
 have HDO:Hid (∀ W,Below w.heap.size w W→Calls Tryz.prog 12 #[.pointer (some ⟨ph,0,none⟩),.string (ba (first ++ 32 :: joinB ws))] W (DoP W B ph sv cv (doH h (first ++ 32 :: joinB ws)))):=
  fun W hb=>do_any (a.hs.below hb) ho hn (hg.below hb).ground _ hlen
 have z1:(ba first).size≤100:=by rw [ba_size];exact hf
 have z2:(ba (joinB ws)).size≤100000:=by rw [ba_size];exact hj
 have HT:Hid (ba first ++ ⟨#[32]⟩ ++ ba (joinB ws)=ba (first ++ 32 :: joinB ws)):=by
  show _=_
  apply dba_ext
  simp [ba_data]
 have HE:Hid (∀ (W':World) (sv' cv':Value),HsAt W' B ph sv' cv' (doA h first ws).h→DTurn w W' cb ph sv cv ph sv' cv'→DkAt W' B cb ph sv' cv' (doA h first ws).h→∀ e,e=endA (doA h first ws)→DkP w B cb ph sv cv (doA h first ws) e W'):=
  fun W' sv' cv' _ t d e he=>⟨he,ph,sv',cv',d,t⟩
 obtain ⟨R,hR⟩:∃ R,R=doH h (first ++ 32 :: joinB ws):=⟨_,rfl⟩
 have hRA:doA h first ws=⟨R.told,R.c,R.h⟩:=by rw [hR];rfl
 rw [← hR] at HDO
 rw [hRA] at HE ⊢
 have HA:=hidE a
 have HG:=hidE hg
 have HW0:=hidE hW0
 have HB0:=hidE hb0
 have hU:=up_ne
 have hA:=anyW_ne
 obtain ⟨js,hjs⟩:∃ s,s=ba (joinB ws):=⟨_,rfl⟩
 obtain ⟨fs,hfs⟩:∃ s,s=ba first:=⟨_,rfl⟩
 obtain ⟨tx,htx⟩:∃ s,s=ba (first ++ 32 :: joinB ws):=⟨_,rfl⟩
 rw [← hjs] at hJ z2 HT
 rw [← hfs] at z1 HT ⊢
 rw [← htx] at HDO HT
 clear a ho hg hW0 hb0 hR hRA hjs hfs htx hlen HJ HW cc c0 hf hj hl hn
 go_enter Tryz.func122,Tryz.ntmps122
 go_wp2_with fail
 refine wp_region_turn [(.pure,0),(.pure,1),(.pure,2),(.read,3),(.pure,4),(.pure,5),(.pure,6),(.make,7),(.pure,8),(.turn,9),(.pure,10),(.pure,11),(.pure,12),(.pure,13),(.pure,14)] (by kernel_rfl) (by kernel_rfl) ?_
 rw [← HW0.out]
 repeat (first | refine turn_p rfl ?_ | refine turn_q rfl ?_);go_big_quiet_step (fail);refine wpQuiet_nil ?_
 refine turn_n rfl ?_
 go_wp2_with fail
 refine hJ.mono ?_
 rintro x w1 ⟨rfl,hb1⟩
 have hB1:Below w.heap.size w w1:=HB0.out.trans (hb1.mono HB0.out.size)
 go_wp2_with fail
 refine ⟨rfl,hb1,?_⟩
 clear f0 hJ
 repeat (first | refine turn_p rfl ?_ | refine turn_q rfl ?_);go_big_quiet_step (fail);refine wpQuiet_nil ?_
 rw [HT.out]
 refine turn_t rfl ?_
 go_wp2_with fail
 refine (HDO.out w1 hB1).mono ?_
 rintro x w2 ⟨sv',cv',rfl,hA2,hT2⟩
 have hTt:HTurn w w2 ph sv cv sv' cv':=(HTurn.of_below hB1).trans hT2
 have hD2:=HA.out.turn hA2 hTt
 have HD:=hidE hD2
 have HTt:Hid (DTurn w w2 cb ph sv cv ph sv' cv'):=DTurn.of_turn hTt
 have HHA:=hidE hA2
 have HG2:Hid (GlobD w2):=(HG.out.turn HA.out (DTurn.of_turn hTt)).glob
 clear hA2 hT2 hTt hD2
 by_cases hc:R.c=0
 ·have HX:Hid (∀ W',Below w2.heap.size w2 W'→DkP w B cb ph sv cv ⟨R.told,R.c,R.h⟩ (.returned (.string (ba R.told))) W'):=fun W' hb=>
   HE.out W' sv' cv' (HHA.out.below hb) (HTt.out.trans (DTurn.of_below hb)) (HD.out.below hb) _ (by unfold endA;rw [if_pos hc])
  rw [hc,show errV 0=Value.nilIface from rfl]
  have hC:=dcheck_nil w2
  clear hc HE
  go_wp2_with fail
  refine ⟨rfl,?_⟩
  repeat (first | refine turn_p rfl ?_ | refine turn_q rfl ?_);go_big_quiet_step (fail);refine wpQuiet_nil ?_
  refine turn_nil ?_
  go_wp2_with fail
  refine hC.mono ?_
  rintro x w3 ⟨rfl,hw3⟩
  subst w3
  clear hC
  go_wp2
  go_ret
  exact HX.out _ (Below.refl _ _)
 ·have HX:Hid (∀ W',Below w2.heap.size w2 W'→DkP w B cb ph sv cv ⟨R.told,R.c,R.h⟩ (.panicked [{ v:=.iface 69 (.int .i64 R.c),recovered:=false }]) W'):=fun W' hb=>
   HE.out W' sv' cv' (HHA.out.below hb) (HTt.out.trans (DTurn.of_below hb)) (HD.out.below hb) _ (by unfold endA;rw [if_neg hc])
  rw [errV_ne hc]
  have hC:=dcheck_err R.c w2 HG2.out.er
  unfold thr at hC
  clear hc HE
  go_wp2_with fail
  refine ⟨rfl,?_⟩
  repeat (first | refine turn_p rfl ?_ | refine turn_q rfl ?_);go_big_quiet_step (fail);refine wpQuiet_nil ?_
  refine turn_nil ?_
  go_wp2_with fail
  refine hC.mono ?_
  rintro x w3 ⟨rfl,hb3⟩
  clear hC
  go_wp2
  exact ⟨rfl,HX.out _ hb3⟩
set_option maxHeartbeats 1000000 in
theorem dpost_any {w:World} {B cb ph:Nat} {sv cv:Value} {h:Hs} (a:DkAt w B cb ph sv cv h) (ho:HsOk h) (hn:h.ls.length≤10000) (hg:GroundD B w) (ws:List (List UInt8)) (v:Value) (hw:WsAt w v ws) (hl:ws.length≤100000) (hj:(joinB ws).length≤100000) :
  Calls Tryz.prog 81 #[.pointer (some ⟨cb,0,none⟩),v] w (DkP w B cb ph sv cv (doA h wPost ws)):=by
 have hd:=ddo_any a ho hn hg wPost ws v hw (by decide) hl hj
 obtain ⟨ad,cap,rfl,-,-⟩:=hw
 have HE:Hid (∀ e W',DkP w B cb ph sv cv (doA h wPost ws) e W'→(∃ s,e = .returned (.string s))∨∃ c,e = .panicked c):=fun e W' hp=>by
  obtain ⟨rfl,-⟩:=hp
  unfold endA
  split
  ·exact Or.inl ⟨_,rfl⟩
  ·exact Or.inr ⟨_,rfl⟩
 obtain ⟨Rr,hRr⟩:∃ R,R=doA h wPost ws:=⟨_,rfl⟩
 rw [← hRr] at hd HE ⊢
 rw [show ba wPost=⟨#[112,111,115,116]⟩ from rfl] at hd
 clear a ho hg hRr
 go_enter Tryz.func81,Tryz.ntmps81
 go_wp2_with fail
 refine hd.mono ?_
 intro e w1 hp
 rcases HE.out e w1 hp with ⟨s,rfl⟩ | ⟨c,rfl⟩
 ·have HP:=hidE hp
  clear hd hp HE
  go_wp2
  go_ret
  exact HP.out
 ·have HP:=hidE hp
  clear hd hp HE
  go_wp2
  exact ⟨rfl,HP.out⟩
set_option maxHeartbeats 1000000 in
theorem dcorrect_any {w:World} {B cb ph:Nat} {sv cv:Value} {h:Hs} (a:DkAt w B cb ph sv cv h) (ho:HsOk h) (hn:h.ls.length≤10000) (hg:GroundD B w) (ws:List (List UInt8)) (v:Value) (hw:WsAt w v ws) (hl:ws.length≤100000) (hj:(joinB ws).length≤100000) :
  Calls Tryz.prog 73 #[.pointer (some ⟨cb,0,none⟩),v] w (DkP w B cb ph sv cv (doA h wCorr ws)):=by
 have hd:=ddo_any a ho hn hg wCorr ws v hw (by decide) hl hj
 obtain ⟨ad,cap,rfl,-,-⟩:=hw
 have HE:Hid (∀ e W',DkP w B cb ph sv cv (doA h wCorr ws) e W'→(∃ s,e = .returned (.string s))∨∃ c,e = .panicked c):=fun e W' hp=>by
  obtain ⟨rfl,-⟩:=hp
  unfold endA
  split
  ·exact Or.inl ⟨_,rfl⟩
  ·exact Or.inr ⟨_,rfl⟩
 obtain ⟨Rr,hRr⟩:∃ R,R=doA h wCorr ws:=⟨_,rfl⟩
 rw [← hRr] at hd HE ⊢
 rw [show ba wCorr=⟨#[99,111,114,114,101,99,116]⟩ from rfl] at hd
 clear a ho hg hRr
 go_enter Tryz.func73,Tryz.ntmps73
 go_wp2_with fail
 refine hd.mono ?_
 intro e w1 hp
 rcases HE.out e w1 hp with ⟨s,rfl⟩ | ⟨c,rfl⟩
 ·have HP:=hidE hp
  clear hd hp HE
  go_wp2
  go_ret
  exact HP.out
 ·have HP:=hidE hp
  clear hd hp HE
  go_wp2
  exact ⟨rfl,HP.out⟩
set_option maxHeartbeats 1000000 in
theorem dvoid_any {w:World} {B cb ph:Nat} {sv cv:Value} {h:Hs} (a:DkAt w B cb ph sv cv h) (ho:HsOk h) (hn:h.ls.length≤10000) (hg:GroundD B w) (ws:List (List UInt8)) (v:Value) (hw:WsAt w v ws) (hl:ws.length≤100000) (hj:(joinB ws).length≤100000) :
  Calls Tryz.prog 86 #[.pointer (some ⟨cb,0,none⟩),v] w (DkP w B cb ph sv cv (doA h wVoid ws)):=by
 have hd:=ddo_any a ho hn hg wVoid ws v hw (by decide) hl hj
 obtain ⟨ad,cap,rfl,-,-⟩:=hw
 have HE:Hid (∀ e W',DkP w B cb ph sv cv (doA h wVoid ws) e W'→(∃ s,e = .returned (.string s))∨∃ c,e = .panicked c):=fun e W' hp=>by
  obtain ⟨rfl,-⟩:=hp
  unfold endA
  split
  ·exact Or.inl ⟨_,rfl⟩
  ·exact Or.inr ⟨_,rfl⟩
 obtain ⟨Rr,hRr⟩:∃ R,R=doA h wVoid ws:=⟨_,rfl⟩
 rw [← hRr] at hd HE ⊢
 rw [show ba wVoid=⟨#[118,111,105,100]⟩ from rfl] at hd
 clear a ho hg hRr
 go_enter Tryz.func86,Tryz.ntmps86
 go_wp2_with fail
 refine hd.mono ?_
 intro e w1 hp
 rcases HE.out e w1 hp with ⟨s,rfl⟩ | ⟨c,rfl⟩
 ·have HP:=hidE hp
  clear hd hp HE
  go_wp2
  go_ret
  exact HP.out
 ·have HP:=hidE hp
  clear hd hp HE
  go_wp2
  exact ⟨rfl,HP.out⟩
set_option maxHeartbeats 1000000 in
theorem dclose_any {w:World} {B cb ph:Nat} {sv cv:Value} {h:Hs} (a:DkAt w B cb ph sv cv h) (ho:HsOk h) (hn:h.ls.length≤10000) (hg:GroundD B w) (ws:List (List UInt8)) (v:Value) (hw:WsAt w v ws) (hl:ws.length≤100000) (hj:(joinB ws).length≤100000) :
  Calls Tryz.prog 71 #[.pointer (some ⟨cb,0,none⟩),v] w (DkP w B cb ph sv cv (doA h wClose ws)):=by
 have hd:=ddo_any a ho hn hg wClose ws v hw (by decide) hl hj
 obtain ⟨ad,cap,rfl,-,-⟩:=hw
 have HE:Hid (∀ e W',DkP w B cb ph sv cv (doA h wClose ws) e W'→(∃ s,e = .returned (.string s))∨∃ c,e = .panicked c):=fun e W' hp=>by
  obtain ⟨rfl,-⟩:=hp
  unfold endA
  split
  ·exact Or.inl ⟨_,rfl⟩
  ·exact Or.inr ⟨_,rfl⟩
 obtain ⟨Rr,hRr⟩:∃ R,R=doA h wClose ws:=⟨_,rfl⟩
 rw [← hRr] at hd HE ⊢
 rw [show ba wClose=⟨#[99,108,111,115,101]⟩ from rfl] at hd
 clear a ho hg hRr
 go_enter Tryz.func71,Tryz.ntmps71
 go_wp2_with fail
 refine hd.mono ?_
 intro e w1 hp
 rcases HE.out e w1 hp with ⟨s,rfl⟩ | ⟨c,rfl⟩
 ·have HP:=hidE hp
  clear hd hp HE
  go_wp2
  go_ret
  exact HP.out
 ·have HP:=hidE hp
  clear hd hp HE
  go_wp2
  exact ⟨rfl,HP.out⟩
def deedTab:List (List UInt8 × Nat):=[(dAt,69),(dChange,70),(wClose,71),(dClosed,72),(wCorr,73),(dDay,74),(dEvents,75),(dHelp,76),(dHistory,77),(dMoves,78),(dMonths,79),(dOpen,80),(wPost,81),(dSum,82),(dTear,83),(dTrial,84),(dTurn,85),(wVoid,86)]
def deedV (cb f:Nat):Value:=.func (.func f) #[.pointer (some ⟨cb,0,none⟩)] #[]
def entsFrom (cb:Nat):Nat→List (List UInt8 × Nat)→List MapEntry
 | _,[]=>[]
 | n,x :: l=>{ key:=.string (ba x.1),val:=deedV cb x.2,born:=n } :: entsFrom cb (n + 1) l
theorem ents_app (cb:Nat):∀ (n:Nat) (l:List (List UInt8 × Nat)) (x:List UInt8 × Nat),entsFrom cb n (l ++ [x])=entsFrom cb n l ++ [{ key:=.string (ba x.1),val:=deedV cb x.2,born:=n + l.length }]
 | n,[],x=>rfl
 | n,y :: l,x=>by
  rw [List.cons_append,entsFrom,ents_app cb (n + 1) l x,entsFrom,List.cons_append,List.length_cons,show n + 1 + l.length=n + (l.length + 1) by omega]
theorem ba_beq (a b:List UInt8):(ba a == ba b)=decide (a=b):=by
 show ((ba a).data == (ba b).data)=_
 rw [Bool.eq_iff_iff,beq_iff_eq,decide_eq_true_eq]
 refine ⟨fun h=>?_,fun h=>by rw [h]⟩
 rw [← ba_data a,h,ba_data]
def foundF (s:List UInt8) (l:List (List UInt8 × Nat)):Option Nat:=(l.find? fun x=>decide (s=x.1)).map (·.2)
theorem find_ents (cb:Nat) (s:List UInt8):∀ (l:List (List UInt8 × Nat)) (n i:Nat),∃ j,Instr.findNow .string (.string (ba s)) (entsFrom cb n l) i=some ((foundF s l).map fun f=>(j,deedV cb f))
 | [],_,_=>⟨0,rfl⟩
 | x :: l,n,i=>by
  unfold entsFrom Instr.findNow
  have e:Instr.sameNow .string (.string (ba s)) (.string (ba x.1))=some (decide (s=x.1)):=by
   show some (ba s == ba x.1)=_
   rw [ba_beq]
  by_cases h:s=x.1
  ·refine ⟨i,?_⟩
   rw [e,decide_eq_true h]
   simp [foundF,h]
  ·rw [e,decide_eq_false h]
   obtain ⟨j,hj⟩:=find_ents cb s l (n + 1) (i + 1)
   refine ⟨j,?_⟩
   simp only [hj]
   simp [foundF,h]
theorem put_deed {w:World} {r:Nat} (cb:Nat) (l:List (List UInt8 × Nat)) (x:List UInt8 × Nat) (hb:w.heap[r]?=some (.map (entsFrom cb 0 l).toArray l.length)) (hn:foundF x.1 l=none) :
  (Instr.mapUpdate 81 (.map (some r)) (.string (ba x.1)) (deedV cb x.2)).run Tryz.prog w = .ok () (w.putObj r (.map (entsFrom cb 0 (l ++ [x])).toArray (l ++ [x]).length)):=by
 have hm:Tryz.prog.underlying 81=some (.map 9 121):=by kernel_rfl
 have hk:Tryz.prog.underlying 9=some .string:=by kernel_rfl
 obtain ⟨j,hf⟩:=find_ents cb x.1 l 0 0
 rw [hn,Option.map_none] at hf
 have hc:(Instr.checkKey false 10000 9 (.string (ba x.1))).run Tryz.prog w = .ok () w:=MapKept.run_checkKey (k:=.string (ba x.1)) hk (by simp [MapKept.IsKey]) false 9999
 have e:(entsFrom cb 0 l).toArray.push { key:=.string (ba x.1),val:=deedV cb x.2,born:=l.length }=(entsFrom cb 0 (l ++ [x])).toArray:=by
  rw [ents_app,Nat.zero_add];simp
 rw [← e,List.length_append,List.length_singleton]
 simp [Instr.mapUpdate,run_underlying hm,MapKept.run_getObj_map hb,hc,MapKept.run_findKey hk hf,MapKept.run_setObj_map _ hb,Result.andThen]
 rfl
theorem look_deed {w:World} {r:Nat} (cb:Nat) (l:List (List UInt8 × Nat)) (n:Nat) (s:List UInt8) (hb:w.heap[r]?=some (.map (entsFrom cb 0 l).toArray n)) :
  (Instr.lookup 81 (.map (some r)) (.string (ba s)) true).run Tryz.prog w = .ok (match foundF s l with
   | some f=>.tuple #[deedV cb f,.bool true]
   | none=>.tuple #[.nilFunc,.bool false]) w:=by
 have hm:Tryz.prog.underlying 81=some (.map 9 121):=by kernel_rfl
 have hk:Tryz.prog.underlying 9=some .string:=by kernel_rfl
 obtain ⟨j,hf⟩:=find_ents cb s l 0 0
 have hc:∀ b,(Instr.checkKey b 10000 9 (.string (ba s))).run Tryz.prog w = .ok () w:=fun b=>MapKept.run_checkKey (k:=.string (ba s)) hk (by simp [MapKept.IsKey]) b 9999
 have hz:(zeroValue 121).run Tryz.prog w = .ok (.nilFunc) w:=by kernel_rfl
 cases h:foundF s l with
 | none=>
  rw [h,Option.map_none] at hf
  simp [Instr.lookup,run_underlying hm,MapKept.run_getObj_map hb,hc,MapKept.run_findKey hk hf,Result.andThen,hz]
 | some f=>
  rw [h,Option.map_some] at hf
  simp [Instr.lookup,run_underlying hm,MapKept.run_getObj_map hb,hc,MapKept.run_findKey hk hf,Result.andThen]
theorem put_step (cb r:Nat) (i:Nat) (hi:i < deedTab.length) (W:World) (hb:W.heap[r]?=some (.map (entsFrom cb 0 (deedTab.take i)).toArray (deedTab.take i).length)) (hn:foundF deedTab[i].1 (deedTab.take i)=none) :
  ∃ W',(Instr.mapUpdate 81 (.map (some r)) (.string (ba deedTab[i].1)) (deedV cb deedTab[i].2)).run Tryz.prog W = .ok () W'∧W'.heap[r]?=some (.map (entsFrom cb 0 (deedTab.take (i + 1))).toArray (deedTab.take (i + 1)).length)∧(∀ B,B≤r→Below B W W'):=by
 refine ⟨_,put_deed cb (deedTab.take i) deedTab[i] hb hn,?_,fun B hB=>?_⟩
 ·rw [← List.take_succ_eq_append_getElem hi]
  exact World.putObj_heap_same (Array.getElem?_eq_some_iff.1 hb).1
 ·refine ⟨rfl,rfl,rfl,?_,fun k hk=>?_⟩
  ·simp [World.putObj]
  ·exact World.putObj_heap_other (by omega)
def DeedsAt (w:World) (cb r:Nat):Prop:=w.heap[r]?=some (.map (entsFrom cb 0 deedTab).toArray deedTab.length)
set_option maxRecDepth 20000 in
set_option maxHeartbeats 4000000 in
theorem deeds_any (cb:Nat) (w:World) :
  Calls Tryz.prog 37 #[.pointer (some ⟨cb,0,none⟩)] w fun e w'=>e = .returned (.map (some w.heap.size))∧DeedsAt w' cb w.heap.size∧Below w.heap.size w w':=by
 obtain ⟨W0,hW0⟩:∃ W,W=w.alloc (.map #[] 0):=⟨_,rfl⟩
 have hmm:∀ t,(Instr.makeMap t none).run Tryz.prog w = .ok (.map (some w.heap.size)) W0:=fun t=>by rw [hW0];exact run_makeMap t w
 have b0:W0.heap[w.heap.size]?=some (.map (entsFrom cb 0 (deedTab.take 0)).toArray (deedTab.take 0).length):=by rw [hW0];exact World.alloc_heap_new w _
 have k0:Below w.heap.size w W0:=by rw [hW0];exact (Below.refl _ _).alloc (Nat.le_refl _) _
 obtain ⟨W1,h1,b1,q1⟩:=put_step cb w.heap.size 0 (by decide) W0 b0 (by decide)
 have k1:=k0.trans (q1 _ (Nat.le_refl _))
 replace h1:(Instr.mapUpdate 81 (.map (some w.heap.size)) (.string ⟨#[97,116]⟩) (.func (.func 69) #[.pointer (some ⟨cb,0,none⟩)] #[])).run Tryz.prog W0 = .ok () W1:=h1
 obtain ⟨W2,h2,b2,q2⟩:=put_step cb w.heap.size 1 (by decide) W1 b1 (by decide)
 have k2:=k1.trans (q2 _ (Nat.le_refl _))
 replace h2:(Instr.mapUpdate 81 (.map (some w.heap.size)) (.string ⟨#[99,104,97,110,103,101]⟩) (.func (.func 70) #[.pointer (some ⟨cb,0,none⟩)] #[])).run Tryz.prog W1 = .ok () W2:=h2
 obtain ⟨W3,h3,b3,q3⟩:=put_step cb w.heap.size 2 (by decide) W2 b2 (by decide)
 have k3:=k2.trans (q3 _ (Nat.le_refl _))
 replace h3:(Instr.mapUpdate 81 (.map (some w.heap.size)) (.string ⟨#[99,108,111,115,101]⟩) (.func (.func 71) #[.pointer (some ⟨cb,0,none⟩)] #[])).run Tryz.prog W2 = .ok () W3:=h3
 obtain ⟨W4,h4,b4,q4⟩:=put_step cb w.heap.size 3 (by decide) W3 b3 (by decide)
 have k4:=k3.trans (q4 _ (Nat.le_refl _))
 replace h4:(Instr.mapUpdate 81 (.map (some w.heap.size)) (.string ⟨#[99,108,111,115,101,100]⟩) (.func (.func 72) #[.pointer (some ⟨cb,0,none⟩)] #[])).run Tryz.prog W3 = .ok () W4:=h4
 obtain ⟨W5,h5,b5,q5⟩:=put_step cb w.heap.size 4 (by decide) W4 b4 (by decide)
 have k5:=k4.trans (q5 _ (Nat.le_refl _))
 replace h5:(Instr.mapUpdate 81 (.map (some w.heap.size)) (.string ⟨#[99,111,114,114,101,99,116]⟩) (.func (.func 73) #[.pointer (some ⟨cb,0,none⟩)] #[])).run Tryz.prog W4 = .ok () W5:=h5
 obtain ⟨W6,h6,b6,q6⟩:=put_step cb w.heap.size 5 (by decide) W5 b5 (by decide)
 have k6:=k5.trans (q6 _ (Nat.le_refl _))
 replace h6:(Instr.mapUpdate 81 (.map (some w.heap.size)) (.string ⟨#[100,97,121]⟩) (.func (.func 74) #[.pointer (some ⟨cb,0,none⟩)] #[])).run Tryz.prog W5 = .ok () W6:=h6
 obtain ⟨W7,h7,b7,q7⟩:=put_step cb w.heap.size 6 (by decide) W6 b6 (by decide)
 have k7:=k6.trans (q7 _ (Nat.le_refl _))
 replace h7:(Instr.mapUpdate 81 (.map (some w.heap.size)) (.string ⟨#[101,118,101,110,116,115]⟩) (.func (.func 75) #[.pointer (some ⟨cb,0,none⟩)] #[])).run Tryz.prog W6 = .ok () W7:=h7
 obtain ⟨W8,h8,b8,q8⟩:=put_step cb w.heap.size 7 (by decide) W7 b7 (by decide)
 have k8:=k7.trans (q8 _ (Nat.le_refl _))
 replace h8:(Instr.mapUpdate 81 (.map (some w.heap.size)) (.string ⟨#[104,101,108,112]⟩) (.func (.func 76) #[.pointer (some ⟨cb,0,none⟩)] #[])).run Tryz.prog W7 = .ok () W8:=h8
 obtain ⟨W9,h9,b9,q9⟩:=put_step cb w.heap.size 8 (by decide) W8 b8 (by decide)
 have k9:=k8.trans (q9 _ (Nat.le_refl _))
 replace h9:(Instr.mapUpdate 81 (.map (some w.heap.size)) (.string ⟨#[104,105,115,116,111,114,121]⟩) (.func (.func 77) #[.pointer (some ⟨cb,0,none⟩)] #[])).run Tryz.prog W8 = .ok () W9:=h9
 obtain ⟨W10,h10,b10,q10⟩:=put_step cb w.heap.size 9 (by decide) W9 b9 (by decide)
 have k10:=k9.trans (q10 _ (Nat.le_refl _))
 replace h10:(Instr.mapUpdate 81 (.map (some w.heap.size)) (.string ⟨#[109,111,118,101,115]⟩) (.func (.func 78) #[.pointer (some ⟨cb,0,none⟩)] #[])).run Tryz.prog W9 = .ok () W10:=h10
 obtain ⟨W11,h11,b11,q11⟩:=put_step cb w.heap.size 10 (by decide) W10 b10 (by decide)
 have k11:=k10.trans (q11 _ (Nat.le_refl _))
 replace h11:(Instr.mapUpdate 81 (.map (some w.heap.size)) (.string ⟨#[109,111,110,116,104,115]⟩) (.func (.func 79) #[.pointer (some ⟨cb,0,none⟩)] #[])).run Tryz.prog W10 = .ok () W11:=h11
 obtain ⟨W12,h12,b12,q12⟩:=put_step cb w.heap.size 11 (by decide) W11 b11 (by decide)
 have k12:=k11.trans (q12 _ (Nat.le_refl _))
 replace h12:(Instr.mapUpdate 81 (.map (some w.heap.size)) (.string ⟨#[111,112,101,110]⟩) (.func (.func 80) #[.pointer (some ⟨cb,0,none⟩)] #[])).run Tryz.prog W11 = .ok () W12:=h12
 obtain ⟨W13,h13,b13,q13⟩:=put_step cb w.heap.size 12 (by decide) W12 b12 (by decide)
 have k13:=k12.trans (q13 _ (Nat.le_refl _))
 replace h13:(Instr.mapUpdate 81 (.map (some w.heap.size)) (.string ⟨#[112,111,115,116]⟩) (.func (.func 81) #[.pointer (some ⟨cb,0,none⟩)] #[])).run Tryz.prog W12 = .ok () W13:=h13
 obtain ⟨W14,h14,b14,q14⟩:=put_step cb w.heap.size 13 (by decide) W13 b13 (by decide)
 have k14:=k13.trans (q14 _ (Nat.le_refl _))
 replace h14:(Instr.mapUpdate 81 (.map (some w.heap.size)) (.string ⟨#[115,117,109]⟩) (.func (.func 82) #[.pointer (some ⟨cb,0,none⟩)] #[])).run Tryz.prog W13 = .ok () W14:=h14
 obtain ⟨W15,h15,b15,q15⟩:=put_step cb w.heap.size 14 (by decide) W14 b14 (by decide)
 have k15:=k14.trans (q15 _ (Nat.le_refl _))
 replace h15:(Instr.mapUpdate 81 (.map (some w.heap.size)) (.string ⟨#[116,101,97,114]⟩) (.func (.func 83) #[.pointer (some ⟨cb,0,none⟩)] #[])).run Tryz.prog W14 = .ok () W15:=h15
 obtain ⟨W16,h16,b16,q16⟩:=put_step cb w.heap.size 15 (by decide) W15 b15 (by decide)
 have k16:=k15.trans (q16 _ (Nat.le_refl _))
 replace h16:(Instr.mapUpdate 81 (.map (some w.heap.size)) (.string ⟨#[116,114,105,97,108]⟩) (.func (.func 84) #[.pointer (some ⟨cb,0,none⟩)] #[])).run Tryz.prog W15 = .ok () W16:=h16
 obtain ⟨W17,h17,b17,q17⟩:=put_step cb w.heap.size 16 (by decide) W16 b16 (by decide)
 have k17:=k16.trans (q17 _ (Nat.le_refl _))
 replace h17:(Instr.mapUpdate 81 (.map (some w.heap.size)) (.string ⟨#[116,117,114,110]⟩) (.func (.func 85) #[.pointer (some ⟨cb,0,none⟩)] #[])).run Tryz.prog W16 = .ok () W17:=h17
 obtain ⟨W18,h18,b18,q18⟩:=put_step cb w.heap.size 17 (by decide) W17 b17 (by decide)
 have k18:=k17.trans (q18 _ (Nat.le_refl _))
 replace h18:(Instr.mapUpdate 81 (.map (some w.heap.size)) (.string ⟨#[118,111,105,100]⟩) (.func (.func 86) #[.pointer (some ⟨cb,0,none⟩)] #[])).run Tryz.prog W17 = .ok () W18:=h18
 have HD:=hidE b18
 have HK:=hidE k18
 clear hW0 b0 k0 b1 k1 b2 k2 b3 k3 b4 k4 b5 k5 b6 k6 b7 k7 b8 k8 b9 k9 b10 k10 b11 k11 b12 k12 b13 k13 b14 k14 b15 k15 b16 k16 b17 k17 b18 k18 q1 q2 q3 q4 q5 q6 q7 q8 q9 q10 q11 q12 q13 q14 q15 q16 q17 q18
 go_enter Tryz.func37,Tryz.ntmps37
 go_wp2
 go_ret
 exact ⟨rfl,HD.out,HK.out⟩
end Go.Proofs.YtbleojodidbhiaaGreatDoor
