/-  -/
import Derived.Test.YtbleojodidbhiaaGreatDoorBnGlob
import Derived.Test.YtbleojodidbhiaaGreatDoorBnDayW
import Derived.Test.YtbleojodidbhiaaGreatDoorBnMon
import Derived.Test.YtbleojodidbhiaaGreatDoorBnC
import Derived.Lib.CutLaws
namespace Go.Proofs.YtbleojodidbhiaaGreatDoor
open Go.RowKit
theorem itoa_size (n:Int) (h:0≤n) (h':n≤9223372036854775807):(eb (Lib.itoa n)).size≤20:=by
 have e:(eb (Lib.itoa n)).size=(Lib.itoa n).length:=by rw [← dba_len];rfl
 rw [e,itoa_pos n h,Lib.decDigits_length]
 exact (wdN_le 20 n.toNat (by omega) (by omega)).2
theorem amt_size (n:Int) (h0:0≤n) (h1:n≤1000000000000):(strOfNums (amt n)).size≤15:=by
 have:=amt_length n (by omega) h1
 rw [byt_length] at this
 rw [strOfNums_size];exact this
theorem amt_data (n:Int):(strOfNums (amt n)).data.toList=byt (amt n):=by rw [strOfNums_data];rfl
theorem eb_list (l:List UInt8):(eb l).data.toList=l:=rfl
theorem nums_in (q p o:Int):eb (Lib.itoa q) ++ ⟨#[32,97,116,32]⟩ ++ strOfNums (amt p)=eb (nums 1 q p o):=by
 apply dba_ext
 have e:nums 1 q p o=Lib.itoa q ++ 32 :: ([97,116] ++ 32 :: byt (amt p)):=rfl
 rw [e,eb_list]
 simp [amt_data,eb_list]
theorem nums_ch (q p o:Int):strOfNums (amt p) ++ ⟨#[32,102,111,114,32]⟩ ++ eb (Lib.itoa o)=eb (nums 2 q p o):=by
 apply dba_ext
 have e:nums 2 q p o=byt (amt p) ++ 32 :: ([102,111,114] ++ 32 :: Lib.itoa o):=rfl
 rw [e,eb_list]
 simp [amt_data,eb_list]
set_option maxHeartbeats 4000000 in
theorem numbers_any (e:Ev) (w:World) (hg:GlobE w) (h:rtK e.kind e.qty e.price e.ofI) :
  Calls Tryz.prog 182 #[evV e] w fun x w'=>x = .returned (.string (eb (nums e.kind e.qty e.price e.ofI)))∧Below w.heap.size w w':=by
 obtain ⟨id,item,kind,qty,price,ofI,day⟩:=e
 simp only at h ⊢
 unfold evV
 simp only
 have hU:=up_ne
 have HG:=hidN hg
 clear hg
 rcases h with ⟨rfl,⟨q0,q1⟩,⟨p0,p1⟩,rfl⟩ | ⟨rfl,rfl,⟨p0,p1⟩,⟨o0,o1⟩⟩ | ⟨rfl,⟨q0,q1⟩,rfl,rfl⟩ | ⟨rfl,⟨q0,q1⟩,rfl,rfl⟩
 ·have z1:=itoa_size qty (by omega) (by omega)
  have z2:=amt_size price (by omega) (by omega)
  have HS:=hidN (nums_in qty price 0)
  go_enter Tryz.func182,Tryz.ntmps182
  go_wp2_with fail
  refine wp_region_mix [(true,0),(true,1),(true,4),(true,5),(false,2),(true,3),(false,6),(true,7),(true,8)] (by kernel_rfl) (by kernel_rfl) ?_
  obtain ⟨W0,hW⟩:∃ W,W=(w.alloc (.cells #[.int .i64 id,.string item,.int .i64 1,.int .i64 qty,.int .i64 price,.int .i64 0,.int .i64 day] 93)).drew:=⟨_,rfl⟩
  rw [← hW]
  have hE:EvAt W0 w.heap.size ⟨id,item,1,qty,price,0,day⟩:=by
   rw [hW];constructor <;> simp
  have hB0:Below w.heap.size w W0:=by rw [hW];exact ((Below.refl _ _).alloc (Nat.le_refl _) _).trans ((below_drew _).mono (by simp))
  clear hW
  have f3:=fun n:Up W0=>(hE.up n).c3
  have f4:=fun n:Up W0=>(hE.up n).c4
  repeat (refine mix_q rfl ?_;go_big_quiet_step (fail);refine wpQuiet_nil ?_)
  refine mix_n rfl ?_
  go_wp2_with fail
  refine (itoaN qty _ (HG.out.below hB0).num (by omega) (by omega)).mono ?_
  rintro e W1 ⟨rfl,hb1⟩
  go_wp2_with fail
  refine ⟨rfl,hb1,?_⟩
  repeat (refine mix_q rfl ?_;go_big_quiet_step (fail);refine wpQuiet_nil ?_)
  refine mix_n rfl ?_
  go_wp2_with fail
  refine (print_any price _ (by omega) (by omega)).mono ?_
  rintro e W2 ⟨rfl,hb2⟩
  go_wp2_with fail
  refine ⟨rfl,hb2,?_⟩
  repeat (refine mix_q rfl ?_;go_big_quiet_step (fail);refine wpQuiet_nil ?_)
  refine mix_nil ?_
  go_wp2
  go_ret
  have hB1:=hB0.trans (hb1.mono hB0.size)
  exact ⟨congrArg (fun s=>Ending.returned (.string s)) HS.out,hB1.trans (hb2.mono hB1.size)⟩
 ·have z1:=itoa_size ofI (by omega) (by omega)
  have z2:=amt_size price (by omega) (by omega)
  have HS:=hidN (nums_ch 0 price ofI)
  go_enter Tryz.func182,Tryz.ntmps182
  go_wp2_with fail
  refine wp_region_mix [(true,0),(true,1),(true,4),(true,5),(false,2),(true,3),(false,6),(true,7),(true,8)] (by kernel_rfl) (by kernel_rfl) ?_
  obtain ⟨W0,hW⟩:∃ W,W=(w.alloc (.cells #[.int .i64 id,.string item,.int .i64 2,.int .i64 0,.int .i64 price,.int .i64 ofI,.int .i64 day] 93)).drew:=⟨_,rfl⟩
  rw [← hW]
  have hE:EvAt W0 w.heap.size ⟨id,item,2,0,price,ofI,day⟩:=by
   rw [hW];constructor <;> simp
  have hB0:Below w.heap.size w W0:=by rw [hW];exact ((Below.refl _ _).alloc (Nat.le_refl _) _).trans ((below_drew _).mono (by simp))
  clear hW
  have f4:=fun n:Up W0=>(hE.up n).c4
  have f5:=fun n:Up W0=>(hE.up n).c5
  repeat (refine mix_q rfl ?_;go_big_quiet_step (fail);refine wpQuiet_nil ?_)
  refine mix_n rfl ?_
  go_wp2_with fail
  refine (print_any price _ (by omega) (by omega)).mono ?_
  rintro e W1 ⟨rfl,hb1⟩
  go_wp2_with fail
  refine ⟨rfl,hb1,?_⟩
  repeat (refine mix_q rfl ?_;go_big_quiet_step (fail);refine wpQuiet_nil ?_)
  refine mix_n rfl ?_
  go_wp2_with fail
  have hB1:=hB0.trans (hb1.mono hB0.size)
  refine (itoaN ofI _ (HG.out.below hB1).num (by omega) (by omega)).mono ?_
  rintro e W2 ⟨rfl,hb2⟩
  go_wp2_with fail
  refine ⟨rfl,hb2,?_⟩
  repeat (refine mix_q rfl ?_;go_big_quiet_step (fail);refine wpQuiet_nil ?_)
  refine mix_nil ?_
  go_wp2
  go_ret
  exact ⟨congrArg (fun s=>Ending.returned (.string s)) HS.out,hB1.trans (hb2.mono hB1.size)⟩
 ·have hb0:Below w.heap.size w (w.alloc (.cells #[.int .i64 id,.string item,.int .i64 3,.int .i64 qty,.int .i64 0,.int .i64 0,.int .i64 day] 93)):=(Below.refl _ _).alloc (Nat.le_refl _) _
  go_enter Tryz.func182,Tryz.ntmps182
  go_wp2_with fail
  refine (itoaN qty _ (HG.out.below hb0).num (by omega) (by omega)).mono ?_
  rintro e W1 ⟨rfl,hb1⟩
  go_wp2
  go_ret
  exact ⟨rfl,hb0.trans (hb1.mono hb0.size)⟩
 ·have hb0:Below w.heap.size w (w.alloc (.cells #[.int .i64 id,.string item,.int .i64 4,.int .i64 qty,.int .i64 0,.int .i64 0,.int .i64 day] 93)):=(Below.refl _ _).alloc (Nat.le_refl _) _
  go_enter Tryz.func182,Tryz.ntmps182
  go_wp2_with fail
  refine (itoaN qty _ (HG.out.below hb0).num (by omega) (by omega)).mono ?_
  rintro e W1 ⟨rfl,hb1⟩
  go_wp2
  go_ret
  exact ⟨rfl,hb0.trans (hb1.mono hb0.size)⟩
theorem DT_size (n:Int):(strOfNums (DT n)).size=10:=by rw [strOfNums_size];rfl
theorem DT_data (n:Int):(strOfNums (DT n)).data.toList=bts (DT n):=dtx_data _ _ _
theorem text_is (e:Ev):strOfNums (DT e.day) ++ ⟨#[32]⟩ ++ eb (wordOf e.kind) ++ ⟨#[32]⟩ ++ e.item ++ ⟨#[32]⟩ ++ eb (nums e.kind e.qty e.price e.ofI)=eb (ET e):=by
 apply dba_ext
 rw [eb_list]
 unfold ET
 simp [DT_data,eb_list]
theorem word_size (k:Int):(eb (wordOf k)).size≤6:=by
 have e:(eb (wordOf k)).size=(wordOf k).length:=by rw [← dba_len];rfl
 rw [e]
 unfold wordOf
 split
 ·decide
 split
 ·decide
 split
 ·decide
 split
 ·decide
 ·decide
theorem nums_size {k q p o:Int} (h:rtK k q p o):(eb (nums k q p o)).size≤60:=by
 have e:(eb (nums k q p o)).size=(nums k q p o).length:=by rw [← dba_len];rfl
 rw [e]
 have hi:∀ n:Int,0≤n→n≤9223372036854775807→(Lib.itoa n).length≤20:=fun n a b=>by
  have:=itoa_size n a b
  have e:(eb (Lib.itoa n)).size=(Lib.itoa n).length:=by rw [← dba_len];rfl
  omega
 unfold nums
 rcases h with ⟨rfl,⟨q0,q1⟩,⟨p0,p1⟩,rfl⟩ | ⟨rfl,rfl,⟨p0,p1⟩,⟨o0,o1⟩⟩ | ⟨rfl,⟨q0,q1⟩,rfl,rfl⟩ | ⟨rfl,⟨q0,q1⟩,rfl,rfl⟩
 ·have a:=hi q (by omega) (by omega)
  have b:=amt_length p (by omega) (by omega)
  rw [if_pos rfl];simp only [List.length_append,List.length_cons,List.length_nil];omega
 ·have a:=hi o (by omega) (by omega)
  have b:=amt_length p (by omega) (by omega)
  rw [if_neg (by decide),if_pos rfl];simp only [List.length_append,List.length_cons,List.length_nil];omega
 ·have a:=hi q (by omega) (by omega)
  rw [if_neg (by decide),if_neg (by decide)];omega
 ·have a:=hi q (by omega) (by omega)
  rw [if_neg (by decide),if_neg (by decide)];omega
theorem name_size {b:ByteArray} (h:isName b.data.toList):b.size≤10:=by
 have:=h.1.2;rw [dba_len] at this;exact this
set_option maxHeartbeats 4000000 in
theorem eprint_bad (e:Ev) (w:World) (hw:EvW e) (h:¬ Rt e) :
  Calls Tryz.prog 127 #[evV e] w fun x w'=>x = .returned (.tuple #[.string ⟨#[]⟩,.iface 69 (.int .i64 1)])∧Below w.heap.size w w':=by
 have HR:=fun v:World=>hidN (right_any e v hw)
 have HN:=hidN h
 clear h hw
 obtain ⟨id,item,kind,qty,price,ofI,day⟩:=e
 have hb0:Below w.heap.size w (w.alloc (.cells #[.int .i64 id,.string item,.int .i64 kind,.int .i64 qty,.int .i64 price,.int .i64 ofI,.int .i64 day] 93)):=(Below.refl _ _).alloc (Nat.le_refl _) _
 unfold evV at *
 simp only at *
 go_enter Tryz.func127,Tryz.ntmps127
 go_wp2_with fail
 refine (HR _).out.mono ?_
 rintro x W1 ⟨⟨b,rfl,hb⟩,hb1⟩
 clear HR
 have HB:=hidN hb
 clear hb
 rcases b with _ | _
 ·go_wp2
  go_ret2
  exact ⟨rfl,hb0.trans (hb1.mono hb0.size)⟩
 ·exact absurd (HB.out.1 rfl) HN.out
set_option maxHeartbeats 8000000 in
theorem eprint_ok (e:Ev) (w:World) (hg:GlobE w) (hw:EvW e) (h:Rt e) :
  Calls Tryz.prog 127 #[evV e] w fun x w'=>x = .returned (.tuple #[.string (eb (ET e)),.nilIface])∧Below w.heap.size w w':=by
 have HR:=fun v:World=>hidN (right_any e v hw)
 have HM:=fun (v:World) (hv:GlobE v)=>hidN (numbers_any e v hv h.2.2)
 have hz:=hidN (nums_size h.2.2)
 have HN:=hidN h
 have HG:=hidN hg
 obtain ⟨id,item,kind,qty,price,ofI,day⟩:=e
 have HS:=hidN (text_is ⟨id,item,kind,qty,price,ofI,day⟩)
 have z0:=DT_size day
 have z1:=word_size kind
 have z2:=name_size h.1
 have z3:=hz.out
 have hd:=h.2.1
 have hk:=rtK_kind h.2.2
 clear hz h hw hg
 have hb0:Below w.heap.size w (w.alloc (.cells #[.int .i64 id,.string item,.int .i64 kind,.int .i64 qty,.int .i64 price,.int .i64 ofI,.int .i64 day] 93)):=(Below.refl _ _).alloc (Nat.le_refl _) _
 have hE0:EvAt (w.alloc (.cells #[.int .i64 id,.string item,.int .i64 kind,.int .i64 qty,.int .i64 price,.int .i64 ofI,.int .i64 day] 93)) w.heap.size ⟨id,item,kind,qty,price,ofI,day⟩:=by
  constructor <;> simp
 unfold evV at *
 simp only at *
 obtain ⟨t,ht⟩:∃ t,t=eb (nums kind qty price ofI):=⟨_,rfl⟩
 rw [← ht] at z3 HS HM
 obtain ⟨dt,hdt⟩:∃ t,t=strOfNums (DT day):=⟨_,rfl⟩
 have HD:=hidN (fun (v:World) (hv:LenTab v)=>dprint_ok day v hv hd.1 hd.2)
 rw [← hdt] at z0 HS HD
 obtain ⟨ET0,hET⟩:∃ t,t=eb (ET ⟨id,item,kind,qty,price,ofI,day⟩):=⟨_,rfl⟩
 rw [← hET] at HS ⊢
 obtain ⟨wd,hwd⟩:∃ t,t=eb (wordOf kind):=⟨_,rfl⟩
 rw [← hwd] at z1 HS
 have HK:Hid (wd=eb (wordOf kind)):=hwd
 clear ht hdt hET hwd
 have hU:=up_ne
 go_enter Tryz.func127,Tryz.ntmps127
 go_wp2_with fail
 refine (HR _).out.mono ?_
 rintro x W1 ⟨⟨b,rfl,hb⟩,hb1⟩
 obtain rfl:b=true:=hb.2 HN.out
 clear HR HN hb
 have hB1:=hb0.trans (hb1.mono hb0.size)
 have hE1:=hE0.below hb1
 have c6:=hE1.c6
 clear hb0 hE0 hb1
 go_wp2_with fail
 refine (HD.out _ (HG.out.below hB1).len).mono ?_
 rintro x W2 ⟨rfl,hb2⟩
 have hB2:=hB1.trans (hb2.mono hB1.size)
 have hE2:=hE1.below hb2
 clear hB1 hE1 hb2 c6 HD
 go_wp2_with fail
 refine wp_region_mix [(true,0),(true,1),(true,2),(true,3),(true,4),(true,5),(true,6),(true,7),(true,8),(true,9),(true,10),(true,11),(true,12),(false,13),(true,14),(true,15),(true,16)] (by kernel_rfl) (by kernel_rfl) ?_
 obtain ⟨W3,hW⟩:∃ W,W=W2.drew:=⟨_,rfl⟩
 rw [← hW]
 have hb3:Below W2.heap.size W2 W3:=by rw [hW];exact below_drew _
 clear hW
 have hB3:=hB2.trans (hb3.mono hB2.size)
 have hE3:=hE2.below hb3
 clear hB2 hE2 hb3
 have HG3:=hidN (HG.out.below hB3)
 have f0:=fun n:Up W3=>(hE3.up n).c0
 have f1:=fun n:Up W3=>(hE3.up n).c1
 have f2:=fun n:Up W3=>(hE3.up n).c2
 have f3:=fun n:Up W3=>(hE3.up n).c3
 have f4:=fun n:Up W3=>(hE3.up n).c4
 have f5:=fun n:Up W3=>(hE3.up n).c5
 have f6:=fun n:Up W3=>(hE3.up n).c6
 rcases hk with rfl | rfl | rfl | rfl
 ·have f7:∀ n:Up W3,n.v.cell? ⟨3,1,none⟩=some (.string wd):=fun n=>by rw [HK.out];exact n.cell (HG3.out.wrd 1 (by omega))
  clear HK
  repeat (refine mix_q rfl ?_;go_big_quiet_step (fail);refine wpQuiet_nil ?_)
  refine mix_n rfl ?_
  go_wp2_with fail
  refine (HM _ HG3.out).out.mono ?_
  rintro x W4 ⟨rfl,hb4⟩
  go_wp2_with fail
  refine ⟨rfl,hb4,?_⟩
  repeat (refine mix_q rfl ?_;go_big_quiet_step (fail);refine wpQuiet_nil ?_)
  refine mix_nil ?_
  go_wp2
  go_ret2
  exact ⟨congrArg (fun s=>Ending.returned (.tuple #[.string s,.nilIface])) HS.out,hB3.trans (hb4.mono hB3.size)⟩
 ·have f7:∀ n:Up W3,n.v.cell? ⟨3,2,none⟩=some (.string wd):=fun n=>by rw [HK.out];exact n.cell (HG3.out.wrd 2 (by omega))
  clear HK
  repeat (refine mix_q rfl ?_;go_big_quiet_step (fail);refine wpQuiet_nil ?_)
  refine mix_n rfl ?_
  go_wp2_with fail
  refine (HM _ HG3.out).out.mono ?_
  rintro x W4 ⟨rfl,hb4⟩
  go_wp2_with fail
  refine ⟨rfl,hb4,?_⟩
  repeat (refine mix_q rfl ?_;go_big_quiet_step (fail);refine wpQuiet_nil ?_)
  refine mix_nil ?_
  go_wp2
  go_ret2
  exact ⟨congrArg (fun s=>Ending.returned (.tuple #[.string s,.nilIface])) HS.out,hB3.trans (hb4.mono hB3.size)⟩
 ·have f7:∀ n:Up W3,n.v.cell? ⟨3,3,none⟩=some (.string wd):=fun n=>by rw [HK.out];exact n.cell (HG3.out.wrd 3 (by omega))
  clear HK
  repeat (refine mix_q rfl ?_;go_big_quiet_step (fail);refine wpQuiet_nil ?_)
  refine mix_n rfl ?_
  go_wp2_with fail
  refine (HM _ HG3.out).out.mono ?_
  rintro x W4 ⟨rfl,hb4⟩
  go_wp2_with fail
  refine ⟨rfl,hb4,?_⟩
  repeat (refine mix_q rfl ?_;go_big_quiet_step (fail);refine wpQuiet_nil ?_)
  refine mix_nil ?_
  go_wp2
  go_ret2
  exact ⟨congrArg (fun s=>Ending.returned (.tuple #[.string s,.nilIface])) HS.out,hB3.trans (hb4.mono hB3.size)⟩
 ·have f7:∀ n:Up W3,n.v.cell? ⟨3,4,none⟩=some (.string wd):=fun n=>by rw [HK.out];exact n.cell (HG3.out.wrd 4 (by omega))
  clear HK
  repeat (refine mix_q rfl ?_;go_big_quiet_step (fail);refine wpQuiet_nil ?_)
  refine mix_n rfl ?_
  go_wp2_with fail
  refine (HM _ HG3.out).out.mono ?_
  rintro x W4 ⟨rfl,hb4⟩
  go_wp2_with fail
  refine ⟨rfl,hb4,?_⟩
  repeat (refine mix_q rfl ?_;go_big_quiet_step (fail);refine wpQuiet_nil ?_)
  refine mix_nil ?_
  go_wp2
  go_ret2
  exact ⟨congrArg (fun s=>Ending.returned (.tuple #[.string s,.nilIface])) HS.out,hB3.trans (hb4.mono hB3.size)⟩
theorem date_any (s:ByteArray) (w:World) (hg:GlobE w) (hs:s.size≤1000) :
  Calls Tryz.prog 230 #[.string s] w fun e w'=>e = .returned (.int .i64 (dayOf s.data.toList))∧Below w.heap.size w w':=by
 rcases h:dparsed s.data.toList with _ | n
 ·have e:dayOf s.data.toList = -1:=by unfold dayOf;rw [h];rfl
  rw [e]
  have HD:=hidN (dparse_bad s w hg.len (by unfold maxLen;omega) h)
  clear e h hg
  go_enter Tryz.func230,Tryz.ntmps230
  go_wp2_with fail
  refine HD.out.mono ?_
  rintro e w1 ⟨rfl,hb⟩
  go_wp2
  go_ret
  exact ⟨rfl,hb⟩
 ·have e:dayOf s.data.toList=n:=by unfold dayOf;rw [h];rfl
  rw [e]
  have HD:=hidN (dparse_ok s n w hg.len h)
  clear e h hg
  go_enter Tryz.func230,Tryz.ntmps230
  go_wp2_with fail
  refine HD.out.mono ?_
  rintro e w1 ⟨rfl,hb⟩
  go_wp2
  go_ret
  exact ⟨rfl,hb⟩
theorem amount_of (s:ByteArray) (w:World) (hs:s.size≤1000) :
  Calls Tryz.prog 233 #[.string s] w fun e w'=>e = .returned (.int .i64 (amtOf s.data.toList))∧Below w.heap.size w w':=by
 rcases h:parsed s.data.toList with _ | n
 ·have e:amtOf s.data.toList = -1:=by unfold amtOf;rw [h];rfl
  rw [e]
  have HD:=hidN (parse_bad s w (by unfold maxLen;omega) h)
  clear e h
  go_enter Tryz.func233,Tryz.ntmps233
  go_wp2_with fail
  refine HD.out.mono ?_
  rintro e w1 ⟨rfl,hb⟩
  go_wp2
  go_ret
  exact ⟨rfl,hb⟩
 ·have e:amtOf s.data.toList=n:=by unfold amtOf;rw [h];rfl
  rw [e]
  have HD:=hidN (parse_ok s n w h)
  clear e h
  go_enter Tryz.func233,Tryz.ntmps233
  go_wp2_with fail
  refine HD.out.mono ?_
  rintro e w1 ⟨rfl,hb⟩
  go_wp2
  go_ret
  exact ⟨rfl,hb⟩
theorem numOf_ok {l:List UInt8} {v:Int} (h:Lib.atoiAll l = .ok v):numOf l=v:=by unfold numOf;rw [h]
theorem numOf_bad {l:List UInt8} (h:∀ v,Lib.atoiAll l ≠ .ok v):numOf l = -1:=by
 unfold numOf
 rcases e:Lib.atoiAll l with v | _ | _
 ·exact absurd e (h v)
 ·rfl
 ·rfl
theorem number_any (s:ByteArray) (w:World) (hg:GlobE w) (hs:s.size≤1000) :
  Calls Tryz.prog 232 #[.string s] w fun e w'=>e = .returned (.int .i64 (numOf s.data.toList))∧Below w.heap.size w w':=by
 have HD:=hidN (atoiN s w hg.num (by omega))
 clear hg
 go_enter Tryz.func232,Tryz.ntmps232
 go_wp2_with fail
 refine HD.out.mono ?_
 rintro e w1 ⟨hh,hb⟩
 clear HD
 rcases hh with ⟨v,hv,rfl⟩ | ⟨x,tq,q,hno,rfl⟩
 ·have HV:=hidN (numOf_ok hv)
  clear hv
  go_wp2
  go_ret
  exact ⟨ret_int HV.out.symm,hb⟩
 ·have HV:=hidN (numOf_bad hno)
  clear hno
  go_wp2
  go_ret
  exact ⟨ret_int HV.out.symm,hb⟩
theorem word_eq (l:List UInt8) (s:ByteArray):((eb l).toList == s.toList)=decide (s.data.toList=l):=by
 rw [ByteArray.toList_eq,ByteArray.toList_eq,Bool.eq_iff_iff]
 constructor
 ·intro h;exact decide_eq_true (beq_iff_eq.1 h).symm
 ·intro h;exact beq_iff_eq.2 (of_decide_eq_true h).symm
set_option maxHeartbeats 1000000 in
theorem kind_any (s:ByteArray) (w:World) (hg:GlobE w) :
  Calls Tryz.prog 231 #[.string s] w fun e w'=>e = .returned (.int .i64 (kindOf s.data.toList))∧w'=w:=by
 have c1:=hg.wrd 1 (by omega)
 have c2:=hg.wrd 2 (by omega)
 have c3:=hg.wrd 3 (by omega)
 have c4:=hg.wrd 4 (by omega)
 clear hg
 have q1:=word_eq (wordOf 1) s
 have q2:=word_eq (wordOf 2) s
 have q3:=word_eq (wordOf 3) s
 have q4:=word_eq (wordOf 4) s
 obtain ⟨w1,h1⟩:∃ x,x=eb (wordOf 1):=⟨_,rfl⟩
 obtain ⟨w2,h2⟩:∃ x,x=eb (wordOf 2):=⟨_,rfl⟩
 obtain ⟨w3,h3⟩:∃ x,x=eb (wordOf 3):=⟨_,rfl⟩
 obtain ⟨w4,h4⟩:∃ x,x=eb (wordOf 4):=⟨_,rfl⟩
 have d1:w.cell? ⟨3,1,none⟩=some (.string w1):=by rw [h1];exact c1
 have d2:w.cell? ⟨3,2,none⟩=some (.string w2):=by rw [h2];exact c2
 have d3:w.cell? ⟨3,3,none⟩=some (.string w3):=by rw [h3];exact c3
 have d4:w.cell? ⟨3,4,none⟩=some (.string w4):=by rw [h4];exact c4
 rw [← h1] at q1
 rw [← h2] at q2
 rw [← h3] at q3
 rw [← h4] at q4
 clear c1 c2 c3 c4 h1 h2 h3 h4
 by_cases e1:s.data.toList=wordOf 1
 ·have e:kindOf s.data.toList=1:=by rw [e1];rfl
  rw [decide_eq_true e1] at q1
  rw [e]
  clear e q2 q3 q4 e1
  go_enter Tryz.func231,Tryz.ntmps231
  go_wp2
  refine wp_loop_rounds 1 ?_
  rw [rounds_succ]
  go_wp2
  go_ret
  exact ⟨rfl,rfl⟩
 rw [decide_eq_false e1] at q1
 by_cases e2:s.data.toList=wordOf 2
 ·have e:kindOf s.data.toList=2:=by rw [e2];rfl
  rw [decide_eq_true e2] at q2
  rw [e]
  clear e q3 q4 e1 e2
  go_enter Tryz.func231,Tryz.ntmps231
  go_wp2
  refine wp_loop_rounds 2 ?_
  rw [rounds_succ]
  go_wp2
  rw [rounds_succ]
  go_wp2
  go_ret
  exact ⟨rfl,rfl⟩
 rw [decide_eq_false e2] at q2
 by_cases e3:s.data.toList=wordOf 3
 ·have e:kindOf s.data.toList=3:=by rw [e3];rfl
  rw [decide_eq_true e3] at q3
  rw [e]
  clear e q4 e1 e2 e3
  go_enter Tryz.func231,Tryz.ntmps231
  go_wp2
  refine wp_loop_rounds 3 ?_
  rw [rounds_succ]
  go_wp2
  rw [rounds_succ]
  go_wp2
  rw [rounds_succ]
  go_wp2
  go_ret
  exact ⟨rfl,rfl⟩
 rw [decide_eq_false e3] at q3
 by_cases e4:s.data.toList=wordOf 4
 ·have e:kindOf s.data.toList=4:=by rw [e4];rfl
  rw [decide_eq_true e4] at q4
  rw [e]
  clear e e1 e2 e3 e4
  go_enter Tryz.func231,Tryz.ntmps231
  go_wp2
  refine wp_loop_rounds 4 ?_
  rw [rounds_succ]
  go_wp2
  rw [rounds_succ]
  go_wp2
  rw [rounds_succ]
  go_wp2
  rw [rounds_succ]
  go_wp2
  go_ret
  exact ⟨rfl,rfl⟩
 rw [decide_eq_false e4] at q4
 have e:kindOf s.data.toList=0:=by
  unfold kindOf
  rw [if_neg (show ¬ s.data.toList=[105,110] from e1),if_neg (show ¬ s.data.toList=[99,104,97,114,103,101] from e2),if_neg (show ¬ s.data.toList=[111,117,116] from e3),if_neg (show ¬ s.data.toList=[99,111,117,110,116] from e4)]
 rw [e]
 clear e e1 e2 e3 e4
 go_enter Tryz.func231,Tryz.ntmps231
 go_wp2
 refine wp_loop_rounds 5 ?_
 rw [rounds_succ]
 go_wp2
 rw [rounds_succ]
 go_wp2
 rw [rounds_succ]
 go_wp2
 rw [rounds_succ]
 go_wp2
 rw [rounds_succ]
 go_wp2
 go_ret
 exact ⟨rfl,rfl⟩
structure PartsAt (w:World) (a b:Nat) (l:List ByteArray):Prop where
 box:w.cell? ⟨a,0,none⟩=some (.slice (some ⟨b,0,none⟩) l.length l.length)
 cells:∀ k:Nat,k < l.length→w.cell? ⟨b,k,none⟩=some (.string (l.getD k ⟨#[]⟩))
theorem PartsAt.below {w w':World} {a b:Nat} {l:List ByteArray} (h:PartsAt w a b l) (hb:Below w.heap.size w w'):PartsAt w' a b l:=
 ⟨below_cell hb h.box,fun k hk=>below_cell hb (h.cells k hk)⟩
theorem part_any (k:Nat) (a b:Nat) (l:List ByteArray) (w:World) (h:PartsAt w a b l) :
  Calls Tryz.prog 229 #[.int .i64 k,.pointer (some ⟨a,0,none⟩)] w fun e w'=>e = .returned (.string (l.getD k ⟨#[]⟩))∧w'=w:=by
 have c0:=h.box
 by_cases hlt:k < l.length
 ·have c1:=h.cells k hlt
  obtain ⟨v,hv⟩:∃ v,v=l.getD k ⟨#[]⟩:=⟨_,rfl⟩
  rw [← hv] at c1 ⊢
  clear h hv
  go_enter Tryz.func229,Tryz.ntmps229
  go_wp2
  go_ret
  exact ⟨rfl,rfl⟩
 ·have HD:Hid (l.getD k ⟨#[]⟩=⟨#[]⟩):=by
   show l.getD k ⟨#[]⟩=⟨#[]⟩
   rw [List.getD,List.getElem?_eq_none (by omega)];rfl
  rw [HD.out]
  clear h HD
  go_enter Tryz.func229,Tryz.ntmps229
  go_wp2
  go_ret
  exact ⟨rfl,rfl⟩
theorem getD_map (l:List ByteArray) (k:Nat):(l.map fun b=>b.data.toList).getD k []=(l.getD k ⟨#[]⟩).data.toList:=by
 rw [List.getD,List.getD,List.getElem?_map]
 cases l[k]? <;> rfl
def bread (l:List ByteArray):Ev:=pread (l.map fun b=>b.data.toList)
theorem part_at (z:Int) (k:Nat) (v:ByteArray) (a b:Nat) (l:List ByteArray) (w:World) (h:PartsAt w a b l) (hz:z=(k:Int)) (hv:l.getD k ⟨#[]⟩=v) :
  Calls Tryz.prog 229 #[.int .i64 z,.pointer (some ⟨a,0,none⟩)] w fun e w'=>e = .returned (.string v)∧w'=w:=by
 subst hz hv;exact part_any k a b l w h
structure EvF (w:World) (b:Nat) (e:Ev):Prop where
 ev:EvAt w b e
 fz:∀ k:Nat,w.frozen? ⟨b,k,none⟩=false
theorem EvF.below {w w':World} {b:Nat} {e:Ev} (h:EvF w b e) (hb:Below w.heap.size w w'):EvF w' b e:=
 ⟨h.ev.below hb,fun k=>by rw [hb.frozen (show (⟨b,k,none⟩:Addr).block < w.heap.size from World.block_lt_of_cell? _ ⟨b,0,none⟩ h.ev.c0)];exact h.fz k⟩
set_option maxHeartbeats 8000000 in
theorem read_any (l:List ByteArray) (b:Nat) (w:World) (hg:GlobE w) (hc:∀ k:Nat,k < l.length→w.cell? ⟨b,k,none⟩=some (.string (l.getD k ⟨#[]⟩))) (hs:∀ x ∈ l,x.size≤1000) :
  Calls Tryz.prog 202 #[.slice (some ⟨b,0,none⟩) l.length l.length] w fun e w'=>e = .returned (evV (bread l))∧Below w.heap.size w w':=by
 have hz:∀ k,(l.getD k ⟨#[]⟩).size≤1000:=by
  intro k
  rw [List.getD]
  rcases h:l[k]? with _ | x
  ·show 0≤1000;omega
  ·exact hs x (List.mem_of_getElem? h)
 obtain ⟨W0,hW⟩:∃ W,W=((w.alloc (.cells #[.slice (some ⟨b,0,none⟩) l.length l.length] 22)).alloc (.cells #[.int .i64 0,.string ⟨#[]⟩,.int .i64 0,.int .i64 0,.int .i64 0,.int .i64 0,.int .i64 0] 93)):=⟨_,rfl⟩
 have hB0:Below w.heap.size w W0:=by rw [hW];exact ((Below.refl _ _).alloc (Nat.le_refl _) _).alloc (by simp) _
 have hP0:PartsAt W0 w.heap.size b l:=⟨by rw [hW];simp,fun k hk=>below_cell hB0 (hc k hk)⟩
 have hR0:EvF W0 (w.heap.size + 1) ⟨0,⟨#[]⟩,0,0,0,0,0⟩:=by
  refine ⟨?_,fun k=>?_⟩
  ·rw [hW];constructor <;> simp
  ·rw [hW];simp
 have HG:=hidN hg
 obtain ⟨p0,hp0⟩:∃ x,l.getD 0 ⟨#[]⟩=x:=⟨_,rfl⟩
 obtain ⟨p1,hp1⟩:∃ x,l.getD 1 ⟨#[]⟩=x:=⟨_,rfl⟩
 obtain ⟨p2,hp2⟩:∃ x,l.getD 2 ⟨#[]⟩=x:=⟨_,rfl⟩
 obtain ⟨p3,hp3⟩:∃ x,l.getD 3 ⟨#[]⟩=x:=⟨_,rfl⟩
 obtain ⟨p5,hp5⟩:∃ x,l.getD 5 ⟨#[]⟩=x:=⟨_,rfl⟩
 have z0:=hz 0
 have z3:=hz 3
 have z5:=hz 5
 rw [hp0] at z0
 rw [hp3] at z3
 rw [hp5] at z5
 have HR:Hid (bread l={ id:=0,day:=dayOf p0.data.toList,kind:=kindOf p1.data.toList,item:=p2,qty:=if kindOf p1.data.toList=2 then 0 else numOf p3.data.toList,price:=if kindOf p1.data.toList=1 then amtOf p5.data.toList else if kindOf p1.data.toList=2 then amtOf p3.data.toList else 0,ofI:=if kindOf p1.data.toList=2 then numOf p5.data.toList else 0 }):=by
  show bread l=_
  unfold bread pread
  rw [getD_map,getD_map,getD_map,getD_map,getD_map,hp0,hp1,hp2,hp3,hp5,eb_data]
 have HP0:=hidN hp0
 have HP1:=hidN hp1
 have HP2:=hidN hp2
 have HP3:=hidN hp3
 have HP5:=hidN hp5
 rw [HR.out]
 clear HR hc hs hg hz hp0 hp1 hp2 hp3 hp5
 obtain ⟨d,hd⟩:∃ d,dayOf p0.data.toList=d:=⟨_,rfl⟩
 have HD:=fun v hv=>hidN (date_any p0 v hv z0)
 obtain ⟨k,hk⟩:∃ d,kindOf p1.data.toList=d:=⟨_,rfl⟩
 have HK:=fun v hv=>hidN (kind_any p1 v hv)
 obtain ⟨q3,hq3⟩:∃ d,numOf p3.data.toList=d:=⟨_,rfl⟩
 obtain ⟨q5,hq5⟩:∃ d,numOf p5.data.toList=d:=⟨_,rfl⟩
 obtain ⟨m3,hm3⟩:∃ d,amtOf p3.data.toList=d:=⟨_,rfl⟩
 obtain ⟨m5,hm5⟩:∃ d,amtOf p5.data.toList=d:=⟨_,rfl⟩
 have HN3:=fun v hv=>hidN (number_any p3 v hv z3)
 have HN5:=fun v hv=>hidN (number_any p5 v hv z5)
 have HM3:=fun v=>hidN (amount_of p3 v z3)
 have HM5:=fun v=>hidN (amount_of p5 v z5)
 rw [hd] at HD ⊢
 rw [hk] at HK ⊢
 rw [hq3] at HN3 ⊢
 rw [hq5] at HN5 ⊢
 rw [hm3] at HM3 ⊢
 rw [hm5] at HM5 ⊢
 clear hd hk hq3 hq5 hm3 hm5 z0 z3 z5
 go_enter Tryz.func202,Tryz.ntmps202
 go_wp2_with fail
 rw [← hW]
 clear hW
 refine (part_at 0 0 p0 _ _ _ _ hP0 rfl HP0.out).mono ?_
 rintro e w' ⟨rfl,hw⟩
 subst w'
 go_wp2_with fail
 refine (HD _ (HG.out.below hB0)).out.mono ?_
 rintro e W1 ⟨rfl,hb1⟩
 have hB1:=hB0.trans (hb1.mono hB0.size)
 have hP1:=hP0.below hb1
 have hR1:=hR0.below hb1
 clear hP0 hR0 hb1 hB0 HD HP0
 go_wp2_with fail
 refine (part_at 1 1 p1 _ _ _ _ hP1 rfl HP1.out).mono ?_
 rintro e w' ⟨rfl,hw⟩
 subst w'
 go_wp2_with fail
 refine (HK _ (HG.out.below hB1)).out.mono ?_
 rintro e w' ⟨rfl,hw⟩
 subst w'
 clear HK HP1
 go_wp2_with fail
 refine (part_at 2 2 p2 _ _ _ _ hP1 rfl HP2.out).mono ?_
 rintro e w' ⟨rfl,hw⟩
 subst w'
 clear HP2
 obtain ⟨W2,hW2⟩:∃ W,W=W1.alloc (.cells #[.int .i64 0,.string p2,.int .i64 k,.int .i64 0,.int .i64 0,.int .i64 0,.int .i64 d] 93):=⟨_,rfl⟩
 have hb2:Below W1.heap.size W1 W2:=by rw [hW2];exact (Below.refl _ _).alloc (Nat.le_refl _) _
 have hB2:=hB1.trans (hb2.mono hB1.size)
 have hP2:=hP1.below hb2
 have hR2:=hR1.below hb2
 have hX2:EvF W2 W1.heap.size ⟨0,p2,k,0,0,0,d⟩:=by
  refine ⟨?_,fun k=>?_⟩
  ·rw [hW2];constructor <;> simp
  ·rw [hW2];simp
 have hlt:=World.block_lt_of_cell? _ _ hR1.ev.c0
 simp only at hlt
 have hne:¬ W1.heap.size=w.heap.size + 1:=by omega
 have hne':¬ w.heap.size + 1=W1.heap.size:=by omega
 have hle:w.heap.size≤W1.heap.size:=hB1.size
 by_cases k1:k=1
 ·subst k1
  go_wp2_with fail
  rw [← hW2]
  clear hW2 hb2 hP1 hR1 hB1 hlt
  refine (part_at 3 3 p3 _ _ _ _ hP2 rfl HP3.out).mono ?_
  rintro e w' ⟨rfl,hw⟩
  subst w'
  go_wp2_with fail
  refine (HN3 _ (HG.out.below hB2)).out.mono ?_
  rintro e W3 ⟨rfl,hb3⟩
  have hB3:=hB2.trans (hb3.mono hB2.size)
  have hP3:=hP2.below hb3
  have hR3:=hR2.below hb3
  have hX3:=hX2.below hb3
  clear hB2 hP2 hR2 hX2 hb3 HN3 HM3 HN5 HP3
  go_wp2_with fail
  refine (part_at 5 5 p5 _ _ _ _ hP3 rfl HP5.out).mono ?_
  rintro e w' ⟨rfl,hw⟩
  subst w'
  go_wp2_with fail
  refine (HM5 _).out.mono ?_
  rintro e W4 ⟨rfl,hb4⟩
  have hB4:=hB3.trans (hb4.mono hB3.size)
  obtain ⟨r0,r1,r2,r3,r4,r5,r6⟩:=(hR3.below hb4).ev
  have rf:=(hR3.below hb4).fz
  obtain ⟨x0,x1,x2,x3,x4,x5,x6⟩:=(hX3.below hb4).ev
  have xf:=(hX3.below hb4).fz
  simp only at r0 r1 r2 r3 r4 r5 r6 x0 x1 x2 x3 x4 x5 x6
  clear hB3 hP3 hR3 hX3 hb4 HM5 HP5
  go_wp2
  refine bodyPost_ret (v:=evV ⟨0,p2,1,q3,m5,0,d⟩) (by simp [results,Tryz.results202,go_sem,evV, *]) rfl ⟨rfl,?_⟩
  exact ((((((((hB4.setCell hle _).setCell hle _).setCell (Nat.le_succ _) _).setCell (Nat.le_succ _) _).setCell (Nat.le_succ _) _).setCell (Nat.le_succ _) _).setCell (Nat.le_succ _) _).setCell (Nat.le_succ _) _).setCell (Nat.le_succ _) _
 by_cases k2:k=2
 ·subst k2
  go_wp2_with fail
  rw [← hW2]
  clear hW2 hb2 hP1 hR1 hB1 hlt
  refine (part_at 3 3 p3 _ _ _ _ hP2 rfl HP3.out).mono ?_
  rintro e w' ⟨rfl,hw⟩
  subst w'
  go_wp2_with fail
  refine (HM3 _).out.mono ?_
  rintro e W3 ⟨rfl,hb3⟩
  have hB3:=hB2.trans (hb3.mono hB2.size)
  have hP3:=hP2.below hb3
  have hR3:=hR2.below hb3
  have hX3:=hX2.below hb3
  clear hB2 hP2 hR2 hX2 hb3 HN3 HM3 HM5 HP3
  go_wp2_with fail
  refine (part_at 5 5 p5 _ _ _ _ hP3 rfl HP5.out).mono ?_
  rintro e w' ⟨rfl,hw⟩
  subst w'
  go_wp2_with fail
  refine (HN5 _ (HG.out.below hB3)).out.mono ?_
  rintro e W4 ⟨rfl,hb4⟩
  have hB4:=hB3.trans (hb4.mono hB3.size)
  obtain ⟨r0,r1,r2,r3,r4,r5,r6⟩:=(hR3.below hb4).ev
  have rf:=(hR3.below hb4).fz
  obtain ⟨x0,x1,x2,x3,x4,x5,x6⟩:=(hX3.below hb4).ev
  have xf:=(hX3.below hb4).fz
  simp only at r0 r1 r2 r3 r4 r5 r6 x0 x1 x2 x3 x4 x5 x6
  clear hB3 hP3 hR3 hX3 hb4 HN5 HP5
  go_wp2
  refine bodyPost_ret (v:=evV ⟨0,p2,2,0,m3,q5,d⟩) (by simp [results,Tryz.results202,go_sem,evV, *]) rfl ⟨rfl,?_⟩
  exact ((((((((hB4.setCell hle _).setCell hle _).setCell (Nat.le_succ _) _).setCell (Nat.le_succ _) _).setCell (Nat.le_succ _) _).setCell (Nat.le_succ _) _).setCell (Nat.le_succ _) _).setCell (Nat.le_succ _) _).setCell (Nat.le_succ _) _
 ·go_wp2_with fail
  rw [← hW2]
  clear hW2 hb2 hP1 hR1 hB1 hlt
  refine (part_at 3 3 p3 _ _ _ _ hP2 rfl HP3.out).mono ?_
  rintro e w' ⟨rfl,hw⟩
  subst w'
  have hR3:=hR2
  have hX3:=hX2
  clear HN5 HM3 HM5 HP3 HP5 hR2 hX2
  go_wp2_with fail
  refine (HN3 _ (HG.out.below hB2)).out.mono ?_
  rintro e W4 ⟨rfl,hb4⟩
  have hB4:=hB2.trans (hb4.mono hB2.size)
  obtain ⟨r0,r1,r2,r3,r4,r5,r6⟩:=(hR3.below hb4).ev
  have rf:=(hR3.below hb4).fz
  obtain ⟨x0,x1,x2,x3,x4,x5,x6⟩:=(hX3.below hb4).ev
  have xf:=(hX3.below hb4).fz
  simp only at r0 r1 r2 r3 r4 r5 r6 x0 x1 x2 x3 x4 x5 x6
  clear hB2 hP2 hR3 hX3 hb4 HN3
  go_wp2
  refine bodyPost_ret (v:=evV ⟨0,p2,k,q3,0,0,d⟩) (by simp [results,Tryz.results202,go_sem,evV, *]) rfl ⟨rfl,?_⟩
  exact (((((((hB4.setCell hle _).setCell (Nat.le_succ _) _).setCell (Nat.le_succ _) _).setCell (Nat.le_succ _) _).setCell (Nat.le_succ _) _).setCell (Nat.le_succ _) _).setCell (Nat.le_succ _) _).setCell (Nat.le_succ _) _
theorem kindOf_bd (l:List UInt8):0≤kindOf l∧kindOf l≤4:=by
 unfold kindOf
 split
 ·omega
 split
 ·omega
 split
 ·omega
 split
 ·omega
 ·omega
theorem wf_of {n:Int} (h0 : -9223372036854775808≤n) (h1:n≤9223372036854775807):(Lit.int .i64 n).wf=true:=by
 have e1:IntKind.i64.min = -9223372036854775808:=rfl
 have e2:IntKind.i64.max=9223372036854775807:=rfl
 simp only [Lit.wf,Bool.and_eq_true,decide_eq_true_eq]
 rw [e1,e2];exact ⟨h0,h1⟩
theorem numOf_bd (l:List UInt8) : -9223372036854775808≤numOf l∧numOf l≤9223372036854775807:=by
 rcases e:Lib.atoiAll l with v | _ | _
 ·rw [numOf_ok e];exact Lib.atoiAll_bounds e
 ·rw [numOf_bad (fun v h=>by rw [e] at h;cases h)];omega
 ·rw [numOf_bad (fun v h=>by rw [e] at h;cases h)];omega
theorem amtOf_bd (l:List UInt8) : -9223372036854775808≤amtOf l∧amtOf l≤9223372036854775807:=by
 unfold amtOf
 rcases e:parsed l with _ | n
 ·show -9223372036854775808≤(-1:Int)∧(-1:Int)≤9223372036854775807;omega
 ·have:=parsed_some e
  show -9223372036854775808≤n∧n≤9223372036854775807;omega
theorem dayOf_bd (l:List UInt8) : -9223372036854775808≤dayOf l∧dayOf l≤9223372036854775807:=by
 unfold dayOf
 rcases e:dparsed l with _ | n
 ·show -9223372036854775808≤(-1:Int)∧(-1:Int)≤9223372036854775807;omega
 ·have:=dparsed_some e
  show -9223372036854775808≤n∧n≤9223372036854775807;omega
theorem pread_w (ps:List (List UInt8)) (h:(ps.getD 2 []).length≤1000):EvW (pread ps):=by
 have k:=kindOf_bd (ps.getD 1 [])
 have d:=dayOf_bd (ps.getD 0 [])
 have n3:=numOf_bd (ps.getD 3 [])
 have n5:=numOf_bd (ps.getD 5 [])
 have m3:=amtOf_bd (ps.getD 3 [])
 have m5:=amtOf_bd (ps.getD 5 [])
 refine ⟨wf_of (show -9223372036854775808≤(0:Int) by decide) (show (0:Int)≤9223372036854775807 by decide),?_,wf_of (by show _≤kindOf _;omega) (by show kindOf _≤_;omega),?_,?_,?_,wf_of d.1 d.2⟩
 ·show (eb (ps.getD 2 [])).size≤maxLen
  have e:(eb (ps.getD 2 [])).size=(ps.getD 2 []).length:=by rw [← dba_len];rfl
  rw [e];unfold maxLen;omega
 ·show (Lit.int .i64 (if _ then _ else _)).wf=true
  split
  ·exact wf_of (by decide) (by decide)
  ·exact wf_of n3.1 n3.2
 ·show (Lit.int .i64 (if _ then _ else _)).wf=true
  split
  ·exact wf_of m5.1 m5.2
  ·split
   ·exact wf_of m3.1 m3.2
   ·exact wf_of (by decide) (by decide)
 ·show (Lit.int .i64 (if _ then _ else _)).wf=true
  split
  ·exact wf_of n5.1 n5.2
  ·exact wf_of (by decide) (by decide)
theorem ps_short (s:ByteArray) (k:Nat):((parts s).getD k ⟨#[]⟩).size≤s.size:=by
 rw [List.getD]
 rcases h:(parts s)[k]? with _ | x
 ·show 0≤s.size;omega
 ·exact parts_size s x (List.mem_of_getElem? h)
theorem bread_w (s:ByteArray) (hs:s.size≤1000):EvW (bread (parts s)):=by
 apply pread_w
 rw [getD_map,dba_len]
 have:=ps_short s 2;omega
theorem bread_ps (s:ByteArray):bread (parts s)=pread (ps s.data.toList):=by unfold bread;rw [parts_ps]
theorem cells_alloc (w:World) (l:List ByteArray) (k:Nat) (hk:k < l.length):(w.alloc (.cells (l.map Value.string).toArray 9)).cell? ⟨w.heap.size,k,none⟩=some (.string (l.getD k ⟨#[]⟩)):=by
 simp [List.getD,hk]
set_option maxHeartbeats 8000000 in
theorem eparse_ok (s:ByteArray) (e:Ev) (w:World) (hg:GlobE w) (hs:s.size≤1000) (h:Reads s.data.toList e) :
  Calls Tryz.prog 159 #[.string s] w fun x w'=>x = .returned (.tuple #[evV e,.nilIface])∧Below w.heap.size w w':=by
 have hr:bread (parts s)=e:=by rw [bread_ps];exact reads_pread h
 have hw:=bread_w s hs
 rw [hr] at hw
 have HG:=hidN hg
 have HS:=hidN hs
 have hR:=fun (v:World) (hv:GlobE v) (hc:∀ k:Nat,k < (parts s).length→v.cell? ⟨w.heap.size + 1,k,none⟩=some (.string ((parts s).getD k ⟨#[]⟩)))=>hidN (read_any (parts s) (w.heap.size + 1) v hv hc (fun x hx=>by have:=parts_size s x hx;omega))
 rw [hr] at hR
 have hPr:=fun (v:World) (hv:GlobE v)=>hidN (eprint_ok e v hv hw h.1)
 have ht:eb (ET e)=s:=by rw [h.2.2,eb_data]
 rw [ht] at hPr
 have hcmp:(s.toList == s.toList)=true:=by simp
 clear hr hw h ht hg hs
 obtain ⟨id,item,kind,qty,price,ofI,day⟩:=e
 unfold evV at *
 simp only at *
 obtain ⟨W0,hW0⟩:∃ W,W=w.alloc (.cells #[.int .i64 0,.string ⟨#[]⟩,.int .i64 0,.int .i64 0,.int .i64 0,.int .i64 0,.int .i64 0] 93):=⟨_,rfl⟩
 have hB0:Below w.heap.size w W0:=by rw [hW0];exact (Below.refl _ _).alloc (Nat.le_refl _) _
 have hz0:W0.heap.size=w.heap.size + 1:=by rw [hW0];simp
 have hR0:EvF W0 w.heap.size ⟨0,⟨#[]⟩,0,0,0,0,0⟩:=by
  refine ⟨?_,fun k=>?_⟩
  ·rw [hW0];constructor <;> simp
  ·rw [hW0];simp
 go_enter Tryz.func159,Tryz.ntmps159
 go_wp2_with fail
 rw [← hW0]
 clear hW0
 refine (splitN s _ (HG.out.below hB0).num HS.out).mono ?_
 rintro x W1 ⟨rfl,hw1⟩
 rw [hz0]
 have hb1:Below W0.heap.size W0 W1:=by rw [hw1];exact (Below.refl _ _).alloc (Nat.le_refl _) _
 have hC1:∀ k:Nat,k < (parts s).length→W1.cell? ⟨w.heap.size + 1,k,none⟩=some (.string ((parts s).getD k ⟨#[]⟩)):=by
  intro k hk
  rw [hw1,← hz0];exact cells_alloc W0 (parts s) k hk
 have hB1:=hB0.trans (hb1.mono hB0.size)
 have hR1:=hR0.below hb1
 have HC1:=hidN hC1
 clear hw1 hz0 hC1 hb1 hR0 hB0
 go_wp2_with fail
 refine (hR _ (HG.out.below hB1) HC1.out).out.mono ?_
 rintro x W2 ⟨rfl,hb2⟩
 have hB2:=hB1.trans (hb2.mono hB1.size)
 have hR2:=hR1.below hb2
 clear HC1 hR1 hb2 hR hB1
 obtain ⟨W3,hW3⟩:∃ W,W=W2.alloc (.cells #[.int .i64 id,.string item,.int .i64 kind,.int .i64 qty,.int .i64 price,.int .i64 ofI,.int .i64 day] 93):=⟨_,rfl⟩
 have hb3:Below W2.heap.size W2 W3:=by rw [hW3];exact (Below.refl _ _).alloc (Nat.le_refl _) _
 have hB3:=hB2.trans (hb3.mono hB2.size)
 have hR3:=hR2.below hb3
 have hX3:EvF W3 W2.heap.size ⟨id,item,kind,qty,price,ofI,day⟩:=by
  refine ⟨?_,fun k=>?_⟩
  ·rw [hW3];constructor <;> simp
  ·rw [hW3];simp
 have hlt:=World.block_lt_of_cell? _ _ hR2.ev.c0
 simp only at hlt
 have hne:¬ W2.heap.size=w.heap.size:=by omega
 have hne':¬ w.heap.size=W2.heap.size:=by omega
 have hle:w.heap.size≤W2.heap.size:=hB2.size
 go_wp2_with fail
 rw [← hW3]
 clear hW3 hb3 hR2 hB2 hlt
 refine (hPr _ (HG.out.below hB3)).out.mono ?_
 rintro x W4 ⟨rfl,hb4⟩
 have hB4:=hB3.trans (hb4.mono hB3.size)
 obtain ⟨r0,r1,r2,r3,r4,r5,r6⟩:=(hR3.below hb4).ev
 have rf:=(hR3.below hb4).fz
 obtain ⟨x0,x1,x2,x3,x4,x5,x6⟩:=(hX3.below hb4).ev
 simp only at r0 r1 r2 r3 r4 r5 r6 x0 x1 x2 x3 x4 x5 x6
 clear hB3 hR3 hX3 hb4 hPr HG HS
 go_wp2
 refine bodyPost_ret (v:=.tuple #[.agg #[.int .i64 id,.string item,.int .i64 kind,.int .i64 qty,.int .i64 price,.int .i64 ofI,.int .i64 day],.nilIface]) (by simp [results,Tryz.results159,go_sem, *]) rfl ⟨rfl,?_⟩
 exact ((((((hB4.setCell (Nat.le_refl _) _).setCell (Nat.le_refl _) _).setCell (Nat.le_refl _) _).setCell (Nat.le_refl _) _).setCell (Nat.le_refl _) _).setCell (Nat.le_refl _) _).setCell (Nat.le_refl _) _
def ev0:Ev:=⟨0,⟨#[]⟩,0,0,0,0,0⟩
set_option maxHeartbeats 8000000 in
theorem eparse_no (s:ByteArray) (e:Ev) (w:World) (hg:GlobE w) (hs:s.size≤1000) (hr:bread (parts s)=e) (hR:¬ Rt e) :
  Calls Tryz.prog 159 #[.string s] w fun x w'=>x = .returned (.tuple #[evV ev0,.iface 69 (.int .i64 3)])∧Below w.heap.size w w':=by
 have hw:=bread_w s hs
 rw [hr] at hw
 have hPr:=fun (v:World) (_:GlobE v)=>hidN (eprint_bad e v hw hR)
 clear hR
 have HG:=hidN hg
 have HS:=hidN hs
 have hR:=fun (v:World) (hv:GlobE v) (hc:∀ k:Nat,k < (parts s).length→v.cell? ⟨w.heap.size + 1,k,none⟩=some (.string ((parts s).getD k ⟨#[]⟩)))=>hidN (read_any (parts s) (w.heap.size + 1) v hv hc (fun x hx=>by have:=parts_size s x hx;omega))
 rw [hr] at hR
 clear hr hw hg hs
 unfold ev0
 obtain ⟨id,item,kind,qty,price,ofI,day⟩:=e
 unfold evV at *
 simp only at *
 obtain ⟨W0,hW0⟩:∃ W,W=w.alloc (.cells #[.int .i64 0,.string ⟨#[]⟩,.int .i64 0,.int .i64 0,.int .i64 0,.int .i64 0,.int .i64 0] 93):=⟨_,rfl⟩
 have hB0:Below w.heap.size w W0:=by rw [hW0];exact (Below.refl _ _).alloc (Nat.le_refl _) _
 have hz0:W0.heap.size=w.heap.size + 1:=by rw [hW0];simp
 have hR0:EvF W0 w.heap.size ⟨0,⟨#[]⟩,0,0,0,0,0⟩:=by
  refine ⟨?_,fun k=>?_⟩
  ·rw [hW0];constructor <;> simp
  ·rw [hW0];simp
 go_enter Tryz.func159,Tryz.ntmps159
 go_wp2_with fail
 rw [← hW0]
 clear hW0
 refine (splitN s _ (HG.out.below hB0).num HS.out).mono ?_
 rintro x W1 ⟨rfl,hw1⟩
 rw [hz0]
 have hb1:Below W0.heap.size W0 W1:=by rw [hw1];exact (Below.refl _ _).alloc (Nat.le_refl _) _
 have hC1:∀ k:Nat,k < (parts s).length→W1.cell? ⟨w.heap.size + 1,k,none⟩=some (.string ((parts s).getD k ⟨#[]⟩)):=by
  intro k hk
  rw [hw1,← hz0];exact cells_alloc W0 (parts s) k hk
 have hB1:=hB0.trans (hb1.mono hB0.size)
 have hR1:=hR0.below hb1
 have HC1:=hidN hC1
 clear hw1 hz0 hC1 hb1 hR0 hB0
 go_wp2_with fail
 refine (hR _ (HG.out.below hB1) HC1.out).out.mono ?_
 rintro x W2 ⟨rfl,hb2⟩
 have hB2:=hB1.trans (hb2.mono hB1.size)
 have hR2:=hR1.below hb2
 clear HC1 hR1 hb2 hR hB1
 obtain ⟨W3,hW3⟩:∃ W,W=W2.alloc (.cells #[.int .i64 id,.string item,.int .i64 kind,.int .i64 qty,.int .i64 price,.int .i64 ofI,.int .i64 day] 93):=⟨_,rfl⟩
 have hb3:Below W2.heap.size W2 W3:=by rw [hW3];exact (Below.refl _ _).alloc (Nat.le_refl _) _
 have hB3:=hB2.trans (hb3.mono hB2.size)
 have hR3:=hR2.below hb3
 have hX3:EvF W3 W2.heap.size ⟨id,item,kind,qty,price,ofI,day⟩:=by
  refine ⟨?_,fun k=>?_⟩
  ·rw [hW3];constructor <;> simp
  ·rw [hW3];simp
 have hlt:=World.block_lt_of_cell? _ _ hR2.ev.c0
 simp only at hlt
 have hne:¬ W2.heap.size=w.heap.size:=by omega
 have hne':¬ w.heap.size=W2.heap.size:=by omega
 have hle:w.heap.size≤W2.heap.size:=hB2.size
 go_wp2_with fail
 rw [← hW3]
 clear hW3 hb3 hR2 hB2 hlt
 refine (hPr _ (HG.out.below hB3)).out.mono ?_
 rintro x W4 ⟨rfl,hb4⟩
 have hB4:=hB3.trans (hb4.mono hB3.size)
 obtain ⟨r0,r1,r2,r3,r4,r5,r6⟩:=(hR3.below hb4).ev
 have rf:=(hR3.below hb4).fz
 obtain ⟨x0,x1,x2,x3,x4,x5,x6⟩:=(hX3.below hb4).ev
 simp only at r0 r1 r2 r3 r4 r5 r6 x0 x1 x2 x3 x4 x5 x6
 clear hB3 hR3 hX3 hb4 hPr HG HS
 go_wp2
 refine bodyPost_ret (v:=.tuple #[.agg #[.int .i64 0,.string ⟨#[]⟩,.int .i64 0,.int .i64 0,.int .i64 0,.int .i64 0,.int .i64 0],.iface 69 (.int .i64 3)]) (by simp [results,Tryz.results159,go_sem, *]) rfl ⟨rfl,?_⟩
 exact ((((((hB4.setCell (Nat.le_refl _) _).setCell (Nat.le_refl _) _).setCell (Nat.le_refl _) _).setCell (Nat.le_refl _) _).setCell (Nat.le_refl _) _).setCell (Nat.le_refl _) _).setCell (Nat.le_refl _) _
set_option maxHeartbeats 8000000 in
theorem eparse_other (s:ByteArray) (e:Ev) (w:World) (hg:GlobE w) (hs:s.size≤1000) (hr:bread (parts s)=e) (hE:Rt e) (hne0:ET e ≠ s.data.toList) :
  Calls Tryz.prog 159 #[.string s] w fun x w'=>x = .returned (.tuple #[evV ev0,.iface 69 (.int .i64 3)])∧Below w.heap.size w w':=by
 have hw:=bread_w s hs
 rw [hr] at hw
 obtain ⟨t,ht⟩:∃ t,eb (ET e)=t:=⟨_,rfl⟩
 have hcmp:(t.toList == s.toList)=false:=by
  rw [← ht,ByteArray.toList_eq,ByteArray.toList_eq]
  exact beq_eq_false_iff_ne.2 hne0
 have hPr:=fun (v:World) (hv:GlobE v)=>hidN (eprint_ok e v hv hw hE)
 rw [ht] at hPr
 clear hE hne0 ht
 have HG:=hidN hg
 have HS:=hidN hs
 have hR:=fun (v:World) (hv:GlobE v) (hc:∀ k:Nat,k < (parts s).length→v.cell? ⟨w.heap.size + 1,k,none⟩=some (.string ((parts s).getD k ⟨#[]⟩)))=>hidN (read_any (parts s) (w.heap.size + 1) v hv hc (fun x hx=>by have:=parts_size s x hx;omega))
 rw [hr] at hR
 clear hr hw hg hs
 unfold ev0
 obtain ⟨id,item,kind,qty,price,ofI,day⟩:=e
 unfold evV at *
 simp only at *
 obtain ⟨W0,hW0⟩:∃ W,W=w.alloc (.cells #[.int .i64 0,.string ⟨#[]⟩,.int .i64 0,.int .i64 0,.int .i64 0,.int .i64 0,.int .i64 0] 93):=⟨_,rfl⟩
 have hB0:Below w.heap.size w W0:=by rw [hW0];exact (Below.refl _ _).alloc (Nat.le_refl _) _
 have hz0:W0.heap.size=w.heap.size + 1:=by rw [hW0];simp
 have hR0:EvF W0 w.heap.size ⟨0,⟨#[]⟩,0,0,0,0,0⟩:=by
  refine ⟨?_,fun k=>?_⟩
  ·rw [hW0];constructor <;> simp
  ·rw [hW0];simp
 go_enter Tryz.func159,Tryz.ntmps159
 go_wp2_with fail
 rw [← hW0]
 clear hW0
 refine (splitN s _ (HG.out.below hB0).num HS.out).mono ?_
 rintro x W1 ⟨rfl,hw1⟩
 rw [hz0]
 have hb1:Below W0.heap.size W0 W1:=by rw [hw1];exact (Below.refl _ _).alloc (Nat.le_refl _) _
 have hC1:∀ k:Nat,k < (parts s).length→W1.cell? ⟨w.heap.size + 1,k,none⟩=some (.string ((parts s).getD k ⟨#[]⟩)):=by
  intro k hk
  rw [hw1,← hz0];exact cells_alloc W0 (parts s) k hk
 have hB1:=hB0.trans (hb1.mono hB0.size)
 have hR1:=hR0.below hb1
 have HC1:=hidN hC1
 clear hw1 hz0 hC1 hb1 hR0 hB0
 go_wp2_with fail
 refine (hR _ (HG.out.below hB1) HC1.out).out.mono ?_
 rintro x W2 ⟨rfl,hb2⟩
 have hB2:=hB1.trans (hb2.mono hB1.size)
 have hR2:=hR1.below hb2
 clear HC1 hR1 hb2 hR hB1
 obtain ⟨W3,hW3⟩:∃ W,W=W2.alloc (.cells #[.int .i64 id,.string item,.int .i64 kind,.int .i64 qty,.int .i64 price,.int .i64 ofI,.int .i64 day] 93):=⟨_,rfl⟩
 have hb3:Below W2.heap.size W2 W3:=by rw [hW3];exact (Below.refl _ _).alloc (Nat.le_refl _) _
 have hB3:=hB2.trans (hb3.mono hB2.size)
 have hR3:=hR2.below hb3
 have hX3:EvF W3 W2.heap.size ⟨id,item,kind,qty,price,ofI,day⟩:=by
  refine ⟨?_,fun k=>?_⟩
  ·rw [hW3];constructor <;> simp
  ·rw [hW3];simp
 have hlt:=World.block_lt_of_cell? _ _ hR2.ev.c0
 simp only at hlt
 have hne:¬ W2.heap.size=w.heap.size:=by omega
 have hne':¬ w.heap.size=W2.heap.size:=by omega
 have hle:w.heap.size≤W2.heap.size:=hB2.size
 go_wp2_with fail
 rw [← hW3]
 clear hW3 hb3 hR2 hB2 hlt
 refine (hPr _ (HG.out.below hB3)).out.mono ?_
 rintro x W4 ⟨rfl,hb4⟩
 have hB4:=hB3.trans (hb4.mono hB3.size)
 obtain ⟨r0,r1,r2,r3,r4,r5,r6⟩:=(hR3.below hb4).ev
 have rf:=(hR3.below hb4).fz
 obtain ⟨x0,x1,x2,x3,x4,x5,x6⟩:=(hX3.below hb4).ev
 simp only at r0 r1 r2 r3 r4 r5 r6 x0 x1 x2 x3 x4 x5 x6
 clear hB3 hR3 hX3 hb4 hPr HG HS
 go_wp2
 refine bodyPost_ret (v:=.tuple #[.agg #[.int .i64 0,.string ⟨#[]⟩,.int .i64 0,.int .i64 0,.int .i64 0,.int .i64 0,.int .i64 0],.iface 69 (.int .i64 3)]) (by simp [results,Tryz.results159,go_sem, *]) rfl ⟨rfl,?_⟩
 exact ((((((hB4.setCell (Nat.le_refl _) _).setCell (Nat.le_refl _) _).setCell (Nat.le_refl _) _).setCell (Nat.le_refl _) _).setCell (Nat.le_refl _) _).setCell (Nat.le_refl _) _).setCell (Nat.le_refl _) _
theorem eparse_bad (s:ByteArray) (w:World) (hg:GlobE w) (hs:s.size≤1000) (h:∀ e,¬ Reads s.data.toList e) :
  Calls Tryz.prog 159 #[.string s] w fun x w'=>x = .returned (.tuple #[evV ev0,.iface 69 (.int .i64 3)])∧Below w.heap.size w w':=by
 rcases Classical.em (Rt (bread (parts s))) with hr | hr
 ·exact eparse_other s _ w hg hs rfl hr (fun he=>h _ ⟨hr,rfl,he⟩)
 ·exact eparse_no s _ w hg hs rfl hr
noncomputable def evOf (l:List UInt8):Option Ev:=by
 classical exact if ∃ e,Reads l e then some (pread (ps l)) else none
theorem evOf_some {l:List UInt8} {e:Ev} (h:evOf l=some e):Reads l e:=by
 unfold evOf at h
 split at h
 ·rename_i hx
  obtain ⟨e',he⟩:=hx
  rw [reads_pread he] at h
  cases h
  exact he
 ·cases h
theorem evOf_none {l:List UInt8} (h:evOf l=none):∀ e,¬ Reads l e:=fun e he=>by
 unfold evOf at h
 rw [if_pos ⟨e,he⟩] at h
 cases h
theorem evOf_is {l:List UInt8} {e:Ev} (h:Reads l e):evOf l=some e:=by
 unfold evOf
 rw [if_pos ⟨e,h⟩,reads_pread h]
def numO (l:List UInt8):Option Int:=match Lib.atoiAll l with
 | .ok v=>if Lib.itoa v=l then some v else none
 | _=>none
def cutL (l:List UInt8):List UInt8 × List UInt8:=(l.takeWhile (· != 32),(l.dropWhile (· != 32)).drop 1)
def wPost:List UInt8:=[112,111,115,116]
def wCorr:List UInt8:=[99,111,114,114,101,99,116]
def wVoid:List UInt8:=[118,111,105,100]
def wClose:List UInt8:=[99,108,111,115,101]
def tPosted:List UInt8:=[112,111,115,116,101,100,32]
def tCorrected:List UInt8:=[99,111,114,114,101,99,116,101,100]
def tVoided:List UInt8:=[118,111,105,100,101,100]
def tClosed:List UInt8:=[99,108,111,115,101,100,32]
def tLate:List UInt8:=[32,108,97,116,101]
theorem cut_cases:∀ l:List UInt8,(32 ∉ l∧cutL l=(l,[]))∨∃ a b,l=a ++ 32 :: b∧32 ∉ a∧cutL l=(a,b)
 | []=>Or.inl ⟨by simp,rfl⟩
 | x :: l=>by
  by_cases hx:x=32
  ·subst hx
   exact Or.inr ⟨[],l,rfl,by simp,by simp [cutL]⟩
  ·have hb:(x != 32)=true:=by simpa using hx
   rcases cut_cases l with ⟨h1,h2⟩ | ⟨a,b,h1,h2,h3⟩
   ·refine Or.inl ⟨fun hm=>?_,?_⟩
    ·rcases List.mem_cons.1 hm with e | e
     ·exact hx e.symm
     ·exact h1 e
    ·unfold cutL at h2 ⊢
     simp only [Prod.mk.injEq] at h2
     rw [List.takeWhile_cons,List.dropWhile_cons,if_pos hb,if_pos hb,h2.1,h2.2]
   ·refine Or.inr ⟨x :: a,b,by rw [h1];rfl,fun hm=>?_,?_⟩
    ·rcases List.mem_cons.1 hm with e | e
     ·exact hx e.symm
     ·exact h2 e
    ·unfold cutL at h3 ⊢
     simp only [Prod.mk.injEq] at h3
     rw [List.takeWhile_cons,List.dropWhile_cons,if_pos hb,if_pos hb,h3.1,h3.2]
theorem cut_lib (l:List UInt8):(Lib.cut l [32]).1=(cutL l).1∧(Lib.cut l [32]).2.1=(cutL l).2:=by
 unfold Lib.cut
 rcases cut_cases l with ⟨h1,h2⟩ | ⟨a,b,h1,h2,h3⟩
 ·rw [index_not 32 l h1,if_neg (by decide),h2]
  exact ⟨rfl,rfl⟩
 ·have hi:Lib.index l [32]=(a.length:Int):=by rw [h1];exact index_at 32 a b h2
  rw [hi,if_pos (by omega),h3,h1]
  simp
theorem cut_len (l:List UInt8):(cutL l).1.length≤l.length∧(cutL l).2.length≤l.length:=by
 unfold cutL
 have h1:=(List.takeWhile_sublist (p:=fun x:UInt8=>x != 32) (l:=l)).length_le
 have h2:=(List.dropWhile_sublist (p:=fun x:UInt8=>x != 32) (l:=l)).length_le
 simp only [List.length_drop]
 omega
theorem evW_of {l:List UInt8} {e:Ev} (h:Reads l e) (hl:l.length≤1000):EvW e:=by
 have hw:=bread_w (eb l) (by simpa [eb,ByteArray.size] using hl)
 rw [bread_ps,show (eb l).data.toList=l by simp [eb],reads_pread h] at hw
 exact hw
end Go.Proofs.YtbleojodidbhiaaGreatDoor
