/-  -/
import Derived.Test.YtbleojodidbhiaaGreatDoorRows
import Derived.Test.YtbleojodidbhiaaGreatDoorBnDay
import Derived.WalkKit
import Derived.ProofKit
import Derived.OpenShut
import Derived.WalkSpells
import Derived.Deep.QuietTactic
import Derived.BigQuiet
import Derived.Laws.BytesArg
import Derived.WalkSmall
namespace Go.Proofs.YtbleojodidbhiaaGreatDoor
open Go.RowKit
theorem dret_int {k:IntKind} {a b:Int} (h:a=b):Ending.returned (.int k a) = .returned (.int k b):=by rw [h]
theorem dret_bool {a b:Bool} (h:a=b):Ending.returned (.bool a) = .returned (.bool b):=by rw [h]
def ltab (k:Nat):Int:=if k=1 then 28 else if k=3∨k=5∨k=8∨k=10 then 30 else 31
def LenTab (w:World):Prop:=∀ k:Nat,k < 12→w.cell? ⟨7,k,none⟩=some (.int .i64 (ltab k))
theorem LenTab.below {w w':World} (h:LenTab w) (hb:Below w.heap.size w w'):LenTab w':=by
 intro k hk
 rw [hb.cell (p:=⟨7,k,none⟩) (World.block_lt_of_cell? _ _ (h k hk))]
 exact h k hk
def isLeap (y:Int):Bool:=decide (y % 4=0∧(y % 100 ≠ 0∨y % 400=0))
theorem mlen_two (y:Int):mlen y 2=if isLeap y then 29 else 28:=by
 unfold mlen lpy isLeap
 by_cases h:y % 4=0∧(y % 100 ≠ 0∨y % 400=0)
 ·simp [h]
 ·simp [h]
theorem mlen_tab (y:Int) (k:Nat) (h:k < 12) (h2:k ≠ 1):mlen y (k + 1)=ltab k:=by
 unfold mlen ltab
 rw [if_neg (by omega),if_neg h2]
 by_cases c:k=3∨k=5∨k=8∨k=10
 ·rw [if_pos c,if_pos (by omega)]
 ·rw [if_neg c,if_neg (by omega)]
set_option maxHeartbeats 1000000 in
theorem leap_any (y:Int) (w:World) (h0:0≤y) (h1:y≤10000) :
  Calls Tryz.prog 250 #[.int .i64 y] w fun e w'=>e = .returned (.bool (isLeap y))∧w'=w:=by
 by_cases c1:y % 4=0
 ·by_cases c2:y % 100=0
  ·by_cases c3:y % 400=0
   ·go_enter Tryz.func250,Tryz.ntmps250
    go_wp2
    go_ret
    exact ⟨dret_bool (by simp [isLeap,c1,c2,c3]),rfl⟩
   ·go_enter Tryz.func250,Tryz.ntmps250
    go_wp2
    go_ret
    exact ⟨dret_bool (by simp [isLeap,c1,c2,c3]),rfl⟩
  ·go_enter Tryz.func250,Tryz.ntmps250
   go_wp2
   go_ret
   exact ⟨dret_bool (by simp [isLeap,c1,c2]),rfl⟩
 ·go_enter Tryz.func250,Tryz.ntmps250
  go_wp2
  go_ret
  exact ⟨dret_bool (by simp [isLeap,c1]),rfl⟩
set_option maxHeartbeats 1000000 in
theorem leaps_any (y:Int) (w:World) (h0:0≤y) (h1:y≤10000) :
  Calls Tryz.prog 249 #[.int .i64 y] w fun e w'=>e = .returned (.int .i64 (lps y))∧w'=w:=by
 have HS:Hid (y / 4 - y / 100 + y / 400=lps y):=rfl
 go_enter Tryz.func249,Tryz.ntmps249
 go_wp2
 go_ret
 exact ⟨dret_int HS.out,rfl⟩
set_option maxHeartbeats 1000000 in
theorem length_any (y:Int) (k:Nat) (w:World) (hl:LenTab w) (h0:0≤y) (h1:y≤10000) (hk:k < 12) :
  Calls Tryz.prog 220 #[.int .i64 y,.int .i64 (k + 1)] w fun e w'=>e = .returned (.int .i64 (mlen y (k + 1)))∧w'=w:=by
 have hc:=hl k hk
 have HT:Hid (k ≠ 1→mlen y (k + 1)=ltab k):=mlen_tab y k hk
 have H2:Hid (mlen y 2=if isLeap y then 29 else 28):=mlen_two y
 clear hl
 by_cases c:k=1
 ·subst c
  rw [show ltab 1=28 from rfl] at hc
  rcases hp:isLeap y
  ·have hl:=leap_any y
   rw [hp] at hl H2
   go_enter Tryz.func220,Tryz.ntmps220
   go_wp2_with (go_at_call 250;refine (hl _ h0 h1).mono ?_;rintro e w' ⟨rfl,hw⟩;subst w')
   go_ret
   exact ⟨dret_int H2.out.symm,rfl⟩
  ·have hl:=leap_any y
   rw [hp] at hl H2
   go_enter Tryz.func220,Tryz.ntmps220
   go_wp2_with (go_at_call 250;refine (hl _ h0 h1).mono ?_;rintro e w' ⟨rfl,hw⟩;subst w')
   go_ret
   exact ⟨dret_int H2.out.symm,rfl⟩
 ·go_enter Tryz.func220,Tryz.ntmps220
  go_wp2
  go_ret
  exact ⟨dret_int (HT.out c).symm,rfl⟩
theorem lps_bd (y:Int) (h0:0≤y) (h1:y≤10000):0≤lps y∧lps y≤2500:=by unfold lps;omega
theorem lps_1899:lps 1899=460:=by decide
theorem cumN_step (y:Int) (k:Nat):cumN y (k + 1)=cumN y k + mlen y (k + 1):=rfl
theorem yfd_bd (y:Int) (h0:1900≤y) (h1:y≤9000):0≤yfd y∧yfd y≤3000000:=by
 have:=yfd_low h0;omega
set_option maxHeartbeats 1000000 in
theorem firstOf_any (y:Int) (k:Nat) (w:World) (hl:LenTab w) (h0:1900≤y) (h1:y≤9000) (hk:k < 12) :
  Calls Tryz.prog 219 #[.int .i64 y,.int .i64 (k + 1)] w fun e w'=>e = .returned (.int .i64 (yfd y + cumN y k))∧w'=w:=by
 have HL:Hid (LenTab w):=hl
 have hb:=lps_bd (y - 1) (by omega) (by omega)
 have HY:Hid ((y - 1900) * 365 + lps (y - 1) - 460=yfd y):=rfl
 have hl2:=leaps_any 1899
 rw [lps_1899] at hl2
 have hyb:=yfd_bd y h0 h1
 clear hl
 go_enter Tryz.func219,Tryz.ntmps219
 go_wp2_with fail
 refine (leaps_any (y - 1) _ (by omega) (by omega)).mono ?_
 rintro e w' ⟨rfl,hw⟩
 subst w'
 go_wp2_with fail
 refine (hl2 _ (by omega) (by omega)).mono ?_
 rintro e w' ⟨rfl,hw⟩
 subst w'
 clear hl2
 go_wp2
 rw [HY.out]
 clear HY hb
 go_loop [5,6] (fun n i=>∃ j:Nat,j≤k∧i = .int .i64 (j + 1)∧n = .int .i64 (yfd y + cumN y j)) (fun _ i=>k + 1 - (intOf i).toNat)
 case atStart=>exact ⟨0,Nat.zero_le _,rfl,by simp [cumN]⟩
 case round=>
  obtain ⟨j,hj,rfl,rfl⟩:=hrel
  have hcb:=cumN_nn y j
  by_cases hlt:j < k
  ·have hm:=mlen_bd y (j + 1)
   have HS:Hid (cumN y (j + 1)=cumN y j + mlen y (j + 1)):=rfl
   go_wp2_with fail
   refine (length_any y j _ HL.out (by omega) (by omega) (by omega)).mono ?_
   rintro e w' ⟨rfl,hw⟩
   subst w'
   go_wp2
   go_round
   case rel=>exact ⟨j + 1,by omega,by go_num,by rw [HS.out];go_num⟩
   case measure=>simp [intOf];omega
  ·obtain rfl:j=k:=by omega
   go_wp2
   go_ret
   exact ⟨rfl,rfl⟩
theorem firstYear_any (y:Int) (w:World) (hl:LenTab w) (h0:1900≤y) (h1:y≤9000) :
  Calls Tryz.prog 219 #[.int .i64 y,.int .i64 1] w fun e w'=>e = .returned (.int .i64 (yfd y))∧w'=w:=by
 have h:=firstOf_any y 0 w hl h0 h1 (by omega)
 have e1:((0:Nat):Int) + 1=1:=by omega
 have e2:yfd y + cumN y 0=yfd y:=by simp [cumN]
 rw [e1,e2] at h
 exact h
theorem tup4 {a b c a' b' c':Int} {v:Value} (h1:a=a') (h2:b=b') (h3:c=c'):Ending.returned (.tuple #[.int .i64 a,.int .i64 b,.int .i64 c,v]) = .returned (.tuple #[.int .i64 a',.int .i64 b',.int .i64 c',v]):=by rw [h1,h2,h3]
theorem parts_is {n y d:Int} {j:Nat} (hy:1900≤y) (hj:j < 12) (hd:d=n - yfd y - cumN y j + 1) (h1:1≤d) (h2:d≤mlen y (j + 1)):y=ky (dK n)∧(j:Int) + 1=km (dK n)∧d=dD n:=by
 have hf:fst y (j + 1)=yfd y + cumN y j:=by
  unfold fst;rw [show ((j:Int) + 1 - 1).toNat=j by omega]
 have hk:=mk_ky (y:=y) (m:=j + 1) hy (by omega) (by omega)
 have hm:=mk_km (y:=y) (m:=j + 1) hy (by omega) (by omega)
 have hfm:=fst_mk (y:=y) (m:=j + 1) hy (by omega) (by omega)
 have hi:IsDay n (mk y (j + 1)) d:=by
  refine ⟨h1,?_,?_⟩
  ·unfold klen;rw [hk,hm];exact h2
  ·rw [← hfm,hf];omega
 obtain ⟨e1,e2⟩:=of_isDay hi
 rw [e1,e2,hk,hm]
 exact ⟨rfl,rfl,rfl⟩
theorem four_results {fn:Func} {a b c d:Tmp} (h:fn.results=#[.tmp a,.tmp b,.tmp c,.tmp d]) (tmps:Array Value) (P:Program) (w:World) :
  (results fn tmps).run P w = .ok (.tuple #[tmps.getD a undef,tmps.getD b undef,tmps.getD c undef,tmps.getD d undef]) w:=by
 simp [results,h]
set_option maxHeartbeats 2000000 in
theorem dparts_ok (n:Int) (w:World) (hl:LenTab w) (h0:0≤n) (h1:n≤99999) :
  Calls Tryz.prog 178 #[.int .i64 n] w fun e w'=>e = .returned (.tuple #[.int .i64 (ky (dK n)),.int .i64 (km (dK n)),.int .i64 (dD n),.nilIface])∧w'=w:=by
 have HL:Hid (LenTab w):=hl
 clear hl
 have hy0:=yfd_low (y:=1900 + n / 366) (by omega)
 go_enter Tryz.func178,Tryz.ntmps178
 go_wp2
 go_loop [2] (fun v=>∃ y:Int,v = .int .i64 y∧1900≤y∧y≤2200∧yfd y≤n) (fun v=>(2201 - intOf v).toNat)
 case atStart=>exact ⟨1900 + n / 366,by go_num,by omega,by omega,by omega⟩
 case round=>
  clear hy0
  obtain ⟨y,rfl,hy1,hy2,hyn⟩:=hrel
  have hb:=yfd_bd (y + 1) (by omega) (by omega)
  have hb2:=yfd_low (y:=y + 1) (by omega)
  go_wp2_with fail
  refine (firstYear_any (y + 1) _ HL.out (by omega) (by omega)).mono ?_
  rintro e w' ⟨rfl,hw⟩
  subst w'
  by_cases hc:yfd (y + 1)≤n
  ·go_wp2
   go_round
   case rel=>exact ⟨y + 1,by go_num,by omega,by omega,hc⟩
   case measure=>simp [intOf];omega
  ·have hyb:=yfd_bd y (by omega) (by omega)
   have hst:=yfd_step y
   have HST:Hid (yfd (y + 1)=yfd y + cumN y 12):=hst
   have HC:Hid (¬ yfd (y + 1)≤n):=hc
   clear hst
   go_wp2_with fail
   refine (firstYear_any y _ HL.out (by omega) (by omega)).mono ?_
   rintro e w' ⟨rfl,hw⟩
   subst w'
   go_wp2_with fail
   clear hb hb2
   have HN:Hid (n < yfd y + cumN y 12):=by
    have:=HST.out;have:=HC.out
    show n < _;omega
   clear hc HST HC
   go_loop [3,4] (fun m d=>∃ j:Nat,j < 12∧m = .int .i64 (j + 1)∧d = .int .i64 (n - yfd y - cumN y j + 1)∧0≤n - yfd y - cumN y j) (fun m _=>12 - (intOf m).toNat)
   case atStart=>exact ⟨0,by omega,rfl,by simp [cumN],by simp [cumN];omega⟩
   case round=>
    obtain ⟨j,hj,rfl,rfl,hd⟩:=hrel
    have hm:=mlen_bd y (j + 1)
    have hcb:=cumN_nn y j
    go_wp2_with fail
    refine (length_any y j _ HL.out (by omega) (by omega) hj).mono ?_
    rintro e w' ⟨rfl,hw⟩
    subst w'
    by_cases hc:mlen y (j + 1) < n - yfd y - cumN y j + 1
    ·have hstep:Hid (cumN y (j + 1)=cumN y j + mlen y (j + 1)):=rfl
     have hj1:j + 1 < 12:=by
      have h12:=HN.out;have h13:=hstep.out
      rcases Nat.lt_or_ge (j + 1) 12 with h | h
      ·exact h
      ·have e:j=11:=by omega
       subst e
       have:cumN y 12=cumN y (11 + 1):=rfl
       omega
     go_wp2_with fail
     refine (length_any y j _ HL.out (by omega) (by omega) hj).mono ?_
     rintro e w' ⟨rfl,hw⟩
     subst w'
     go_wp2
     go_round
     case rel=>
      have:=hstep.out
      exact ⟨j + 1,hj1,by go_num,by go_num,by omega⟩
     case measure=>simp [intOf];omega
    ·have HP:Hid (y=ky (dK n)∧(j:Int) + 1=km (dK n)∧n - yfd y - cumN y j + 1=dD n):=parts_is hy1 hj rfl (by omega) (by omega)
     go_wp2
     (try simp only [Exit.inBlock,Exit.then])
     refine bodyPost_ret (four_results rfl _ _ _) rfl ?_
     exact ⟨tup4 HP.out.1 HP.out.2.1 HP.out.2.2,rfl⟩
set_option maxHeartbeats 1000000 in
theorem dparts_bad (n:Int) (w:World) (h:n < 0∨99999 < n) :
  Calls Tryz.prog 178 #[.int .i64 n] w fun e w'=>e = .returned (.tuple #[.int .i64 0,.int .i64 0,.int .i64 0,.iface 69 (.int .i64 1)])∧w'=w:=by
 by_cases c:n < 0
 ·go_enter Tryz.func178,Tryz.ntmps178
  go_wp2
  (try simp only [Exit.inBlock,Exit.then])
  refine bodyPost_ret (four_results rfl _ _ _) rfl ?_
  exact ⟨rfl,rfl⟩
 ·go_enter Tryz.func178,Tryz.ntmps178
  go_wp2
  (try simp only [Exit.inBlock,Exit.then])
  refine bodyPost_ret (four_results rfl _ _ _) rfl ?_
  exact ⟨rfl,rfl⟩
theorem tup2 {a a':Int} {v:Value} (h1:a=a'):Ending.returned (.tuple #[.int .i64 a,v]) = .returned (.tuple #[.int .i64 a',v]):=by rw [h1]
theorem month_is (k:Nat):(ky k - 1900) * 12 + km k - 1=(k:Int):=by unfold ky km;omega
set_option maxHeartbeats 1000000 in
theorem dmonth_ok (n:Int) (w:World) (hl:LenTab w) (h0:0≤n) (h1:n≤99999) :
  Calls Tryz.prog 125 #[.int .i64 n] w fun e w'=>e = .returned (.tuple #[.int .i64 (dK n:Int),.nilIface])∧w'=w:=by
 have hk:=dK_le h0 h1
 have hy:1900≤ky (dK n)∧ky (dK n)≤2200:=⟨ky_ge _,by unfold ky;omega⟩
 have hm:=km_bd (dK n)
 have HM:Hid ((ky (dK n) - 1900) * 12 + km (dK n) - 1=(dK n:Int)):=month_is (dK n)
 clear hk
 go_enter Tryz.func125,Tryz.ntmps125
 go_wp2_with fail
 refine (dparts_ok n _ hl h0 h1).mono ?_
 rintro e w' ⟨rfl,hw⟩
 subst w'
 go_wp2
 go_ret2
 exact ⟨tup2 HM.out,rfl⟩
set_option maxHeartbeats 1000000 in
theorem dmonth_bad (n:Int) (w:World) (h:n < 0∨99999 < n) :
  Calls Tryz.prog 125 #[.int .i64 n] w fun e w'=>e = .returned (.tuple #[.int .i64 0,.iface 69 (.int .i64 1)])∧w'=w:=by
 go_enter Tryz.func125,Tryz.ntmps125
 go_wp2_with fail
 refine (dparts_bad n _ h).mono ?_
 rintro e w' ⟨rfl,hw⟩
 subst w'
 go_wp2
 go_ret2
 exact ⟨rfl,rfl⟩
theorem fst_nat (y:Int) (k:Nat):fst y (k + 1)=yfd y + cumN y k:=by
 unfold fst;rw [show ((k:Int) + 1 - 1).toNat=k by omega]
set_option maxHeartbeats 1000000 in
theorem of_in (y d:Int) (k:Nat) (w:World) (hl:LenTab w) (h0:1900≤y) (h1:y≤2200) (hk:k < 12) (hd:1≤d) (hd':d≤mlen y (k + 1)) (hn:yfd y + cumN y k + d - 1≤99999) :
  Calls Tryz.prog 207 #[.int .i64 y,.int .i64 (k + 1),.int .i64 d] w fun e w'=>e = .returned (.tuple #[.int .i64 (yfd y + cumN y k + d - 1),.nilIface])∧w'=w:=by
 have HL:Hid (LenTab w):=hl
 have hm:=mlen_bd y (k + 1)
 have hb:=yfd_bd y h0 (by omega)
 have hc:=cumN_nn y k
 clear hl
 go_enter Tryz.func207,Tryz.ntmps207
 go_wp2_with fail
 refine (length_any y k _ HL.out (by omega) (by omega) hk).mono ?_
 rintro e w' ⟨rfl,hw⟩
 subst w'
 go_wp2_with fail
 refine (firstOf_any y k _ HL.out (by omega) (by omega) hk).mono ?_
 rintro e w' ⟨rfl,hw⟩
 subst w'
 go_wp2
 go_ret2
 exact ⟨rfl,rfl⟩
set_option maxHeartbeats 1000000 in
theorem of_over (y d:Int) (k:Nat) (w:World) (hl:LenTab w) (h0:1900≤y) (h1:y≤2200) (hk:k < 12) (hd:1≤d) (hd':d≤mlen y (k + 1)) (hn:99999 < yfd y + cumN y k + d - 1) :
  Calls Tryz.prog 207 #[.int .i64 y,.int .i64 (k + 1),.int .i64 d] w fun e w'=>e = .returned (.tuple #[.int .i64 0,.iface 69 (.int .i64 1)])∧w'=w:=by
 have HL:Hid (LenTab w):=hl
 have hm:=mlen_bd y (k + 1)
 have hb:=yfd_bd y h0 (by omega)
 have hc:=cumN_nn y k
 clear hl
 go_enter Tryz.func207,Tryz.ntmps207
 go_wp2_with fail
 refine (length_any y k _ HL.out (by omega) (by omega) hk).mono ?_
 rintro e w' ⟨rfl,hw⟩
 subst w'
 go_wp2_with fail
 refine (firstOf_any y k _ HL.out (by omega) (by omega) hk).mono ?_
 rintro e w' ⟨rfl,hw⟩
 subst w'
 go_wp2
 go_ret2
 exact ⟨rfl,rfl⟩
set_option maxHeartbeats 1000000 in
theorem of_day (y d:Int) (k:Nat) (w:World) (hl:LenTab w) (h0:1900≤y) (h1:y≤2200) (hk:k < 12) (hd:d < 1∨mlen y (k + 1) < d) :
  Calls Tryz.prog 207 #[.int .i64 y,.int .i64 (k + 1),.int .i64 d] w fun e w'=>e = .returned (.tuple #[.int .i64 0,.iface 69 (.int .i64 1)])∧w'=w:=by
 have HL:Hid (LenTab w):=hl
 have hm:=mlen_bd y (k + 1)
 clear hl
 by_cases c:d < 1
 ·go_enter Tryz.func207,Tryz.ntmps207
  go_wp2
  go_ret2
  exact ⟨rfl,rfl⟩
 ·go_enter Tryz.func207,Tryz.ntmps207
  go_wp2_with fail
  refine (length_any y k _ HL.out (by omega) (by omega) hk).mono ?_
  rintro e w' ⟨rfl,hw⟩
  subst w'
  go_wp2
  go_ret2
  exact ⟨rfl,rfl⟩
set_option maxHeartbeats 1000000 in
theorem of_out (y m d:Int) (w:World) (h:y < 1900∨2200 < y∨m < 1∨12 < m) :
  Calls Tryz.prog 207 #[.int .i64 y,.int .i64 m,.int .i64 d] w fun e w'=>e = .returned (.tuple #[.int .i64 0,.iface 69 (.int .i64 1)])∧w'=w:=by
 by_cases c1:y < 1900
 ·go_enter Tryz.func207,Tryz.ntmps207
  go_wp2
  go_ret2
  exact ⟨rfl,rfl⟩
 ·by_cases c2:2200 < y
  ·go_enter Tryz.func207,Tryz.ntmps207
   go_wp2
   go_ret2
   exact ⟨rfl,rfl⟩
  ·by_cases c3:m < 1
   ·go_enter Tryz.func207,Tryz.ntmps207
    go_wp2
    go_ret2
    exact ⟨rfl,rfl⟩
   ·go_enter Tryz.func207,Tryz.ntmps207
    go_wp2
    go_ret2
    exact ⟨rfl,rfl⟩
theorem of_ok (y m d n:Int) (w:World) (hl:LenTab w) (h:ofDay y m d=some n) :
  Calls Tryz.prog 207 #[.int .i64 y,.int .i64 m,.int .i64 d] w fun e w'=>e = .returned (.tuple #[.int .i64 n,.nilIface])∧w'=w:=by
 obtain ⟨a,b,c,e,f,g,i,j,k,l⟩:=ofDay_some h
 obtain ⟨q,rfl⟩:∃ q:Nat,m=q + 1:=⟨(m - 1).toNat,by omega⟩
 rw [fst_nat] at i
 subst i
 exact of_in y d q w hl a b (by omega) f g (by omega)
theorem of_bad (y m d:Int) (w:World) (hl:LenTab w) (h:ofDay y m d=none) :
  Calls Tryz.prog 207 #[.int .i64 y,.int .i64 m,.int .i64 d] w fun e w'=>e = .returned (.tuple #[.int .i64 0,.iface 69 (.int .i64 1)])∧w'=w:=by
 by_cases c:1900≤y∧y≤2200∧1≤m∧m≤12
 ·obtain ⟨c1,c2,c3,c4⟩:=c
  obtain ⟨q,rfl⟩:∃ q:Nat,m=q + 1:=⟨(m - 1).toNat,by omega⟩
  by_cases e:1≤d∧d≤mlen y (q + 1)
  ·have:¬ yfd y + cumN y q + d - 1≤99999:=by
    intro hn
    unfold ofDay at h
    rw [if_pos ⟨c1,c2,c3,c4,e.1,e.2,by rw [fst_nat];exact hn⟩] at h
    simp at h
   exact of_over y d q w hl c1 c2 (by omega) e.1 e.2 (by omega)
  ·exact of_day y d q w hl c1 c2 (by omega) (by omega)
 ·exact of_out y m d w (by omega)
def lastDay (m:Int):Option Int:=if 0≤m∧m≤3285 then some (if m=3285 then 99999 else kfd m.toNat + klen m.toNat - 1) else none
theorem kfd_hi {k:Nat} (h:3286≤k):100016≤kfd k:=by
 by_cases e:k=3286
 ·rw [e,kfd_3286];omega
 ·have:=kfd_lt 3286 k (by omega);have:=klen_bd 3286;rw [kfd_3286] at *;omega
theorem kfd_lo {k:Nat} (h:k≤3285):kfd k≤99985∧(k≤3284→kfd k + klen k≤99985):=by
 by_cases e:k=3285
 ·rw [e,kfd_3285];exact ⟨by omega,fun h=>by omega⟩
 ·have:=kfd_lt k 3285 (by omega);have:=klen_bd k;rw [kfd_3285] at *;exact ⟨by omega,fun h=>by omega⟩
theorem klen_3285:klen 3285=31:=by decide
theorem dba_ext {a b:ByteArray} (h:a.data.toList=b.data.toList):a=b:=by
 cases a;cases b;simp at h;simp [h]
theorem dret_str {a b:ByteArray} (h:a.data.toList=b.data.toList):Ending.returned (.string a) = .returned (.string b):=by rw [dba_ext h]
set_option maxHeartbeats 1000000 in
theorem two_any (n:Int) (w:World) (h0:0≤n) (h1:n≤99) :
  Calls Tryz.prog 224 #[.int .i64 n] w fun e w'=>e = .returned (.string (strOfNums (tw n)))∧Below w.heap.size w w':=by
 have hrun:=run_convert_bytes_arg (P:=Tryz.prog) (w.alloc (.cells #[.int .u8 (48 + n / 10),.int .u8 (48 + n % 10)] 5)) 62 5 Tryz.underlying62 Tryz.underlying5 w.heap.size 0 2 2 (tw n) rfl (fun i hi=>by
    rcases i with _ | _ | i
    ·simp [tw]
    ·simp [tw]
    ·omega) 9 Tryz.underlying9
 have hb:Below w.heap.size w (w.alloc (.cells #[.int .u8 (48 + n / 10),.int .u8 (48 + n % 10)] 5)):=(Below.refl _ _).alloc (Nat.le_refl _) _
 go_enter Tryz.func224,Tryz.ntmps224
 go_wp2
 go_ret
 exact ⟨rfl,hb⟩
theorem two_size (n:Int):(strOfNums (tw n)).size=2:=by rw [strOfNums_size];rfl
theorem dtx_data (y m d:Int):(strOfNums (dtx y m d)).data.toList=bts (dtx y m d):=by rw [strOfNums_data];rfl
theorem tup2s {a a':ByteArray} {v:Value} (h1:a.data.toList=a'.data.toList):Ending.returned (.tuple #[.string a,v]) = .returned (.tuple #[.string a',v]):=by rw [dba_ext h1]
set_option maxHeartbeats 2000000 in
theorem dprint_ok (n:Int) (w:World) (hl:LenTab w) (h0:0≤n) (h1:n≤99999) :
  Calls Tryz.prog 181 #[.int .i64 n] w fun e w'=>e = .returned (.tuple #[.string (strOfNums (DT n)),.nilIface])∧Below w.heap.size w w':=by
 have hk:=dK_le h0 h1
 obtain ⟨y,hy⟩:∃ y,y=ky (dK n):=⟨_,rfl⟩
 obtain ⟨m,hm⟩:∃ m,m=km (dK n):=⟨_,rfl⟩
 obtain ⟨d,hd⟩:∃ d,d=dD n:=⟨_,rfl⟩
 have hyb:1900≤y∧y≤2200:=by rw [hy];exact ⟨ky_ge _,by unfold ky;omega⟩
 have hmb:1≤m∧m≤12:=by rw [hm];exact km_bd _
 have hdb:1≤d∧d≤31:=by rw [hd];exact dD_bd h0
 have HD:Hid (DT n=dtx y m d):=by show DT n=_;rw [hy,hm,hd];rfl
 have hp:=dparts_ok n w hl h0 h1
 rw [← hy,← hm,← hd] at hp
 have HP:Hid (Calls Tryz.prog 178 #[.int .i64 n] w fun e w'=>e = .returned (.tuple #[.int .i64 y,.int .i64 m,.int .i64 d,.nilIface])∧w'=w):=hp
 have z1:=two_size (y / 100)
 have z2:=two_size (y % 100)
 have z3:=two_size m
 have z4:=two_size d
 clear hy hm hd hk hp hl
 go_enter Tryz.func181,Tryz.ntmps181
 go_wp2_with fail
 refine HP.out.mono ?_
 rintro e w' ⟨rfl,hw⟩
 subst w'
 clear HP
 go_wp2_with fail
 refine (two_any (y / 100) _ (by omega) (by omega)).mono ?_
 rintro e w1 ⟨rfl,hb1⟩
 go_wp2_with fail
 refine (two_any (y % 100) _ (by omega) (by omega)).mono ?_
 rintro e w2 ⟨rfl,hb2⟩
 go_wp2_with fail
 refine (two_any m _ (by omega) (by omega)).mono ?_
 rintro e w3 ⟨rfl,hb3⟩
 go_wp2_with fail
 refine (two_any d _ (by omega) (by omega)).mono ?_
 rintro e w4 ⟨rfl,hb4⟩
 go_wp2
 go_ret2
 have h12:=hb1.trans (hb2.mono hb1.size)
 have h13:=h12.trans (hb3.mono h12.size)
 refine ⟨tup2s ?_,h13.trans (hb4.mono h13.size)⟩
 rw [HD.out,dtx_data]
 simp [strOfNums,dtx,bts]
theorem dprint_bad (n:Int) (w:World) (h:n < 0∨99999 < n) :
  Calls Tryz.prog 181 #[.int .i64 n] w fun e w'=>e = .returned (.tuple #[.string ⟨#[]⟩,.iface 69 (.int .i64 1)])∧w'=w:=by
 go_enter Tryz.func181,Tryz.ntmps181
 go_wp2_with fail
 refine (dparts_bad n _ h).mono ?_
 rintro e w' ⟨rfl,hw⟩
 subst w'
 go_wp2
 go_ret2
 exact ⟨rfl,rfl⟩
theorem dtake_snoc (s:ByteArray) (k:Nat) (h:k < s.size):s.data.toList.take (k + 1)=s.data.toList.take k ++ [s[k]]:=by
 rw [List.take_succ_eq_append_getElem (by simpa using h)];rfl
set_option maxHeartbeats 1000000 in
theorem dvalue_any (s:ByteArray) (w:World) (hs:s.size≤4) :
  Calls Tryz.prog 208 #[.string s] w fun e w'=>e = .returned (.int .i64 (dval s.data.toList))∧w'=w:=by
 go_enter Tryz.func208,Tryz.ntmps208
 go_wp2
 go_loop [3,7] (fun n i=>∃ k:Nat,k≤s.size∧i = .int .i64 k∧n = .int .i64 (dval (s.data.toList.take k))) (fun _ i=>s.size - (intOf i).toNat)
 case atStart=>exact ⟨0,Nat.zero_le _,rfl,rfl⟩
 case round=>
  obtain ⟨k,hk,rfl,rfl⟩:=hrel
  have hl:(s.data.toList.take k).length≤4:=by
   have:=List.length_take_le k s.data.toList;omega
  have hd:=dval_bd4 _ hl
  by_cases hlt:k < s.size
  ·have HS:Hid (dval (s.data.toList.take (k + 1))=dval1 (dval (s.data.toList.take k)) s[k]):=by rw [dtake_snoc s k hlt];exact dval_snoc _ _
   have hc:s[k].toNat < 256:=s[k].toNat_lt
   go_wp2
   go_round
   case rel=>exact ⟨k + 1,by omega,by go_num,by rw [HS.out,dval1]⟩
   case measure=>simp [intOf];omega
  ·have ht:s.data.toList.take k=s.data.toList:=List.take_of_length_le (by simp;omega)
   rw [ht] at hd ⊢
   clear ht hl
   go_wp2
   go_ret
   exact ⟨rfl,rfl⟩
theorem LenTab.drew {w:World} (h:LenTab w) (n:Nat):LenTab (w.drewN n):=h.below (below_drewN (Below.refl _ _) n)
theorem dba_extract (x:ByteArray) (a b:Nat):(x.extract a b).data.toList=(x.data.toList.take b).drop a:=by
 rw [ByteArray.data_extract,Array.toList_extract,List.drop_take]
theorem dba_len (x:ByteArray):x.data.toList.length=x.size:=by simp
theorem drop8 (s:ByteArray) (hs:s.size=10):(s.data.toList.drop 8).take 2=s.data.toList.drop 8:=
 List.take_of_length_le (by rw [List.length_drop,dba_len,hs];decide)
set_option maxHeartbeats 2000000 in
theorem dparse_ok (s:ByteArray) (n:Int) (w:World) (hl:LenTab w) (h:dparsed s.data.toList=some n) :
  Calls Tryz.prog 165 #[.string s] w fun e w'=>e = .returned (.tuple #[.int .i64 n,.nilIface])∧Below w.heap.size w w':=by
 obtain ⟨h1,h2,h3,h4,h5⟩:=dparsed_some h
 have hs:s.size=10:=by rw [← dba_len];exact h1
 rw [← drop8 s hs] at h5
 have HO:Hid (∀ k,Calls Tryz.prog 207 #[.int .i64 (dval (s.data.toList.take 4)),.int .i64 (dval ((s.data.toList.drop 5).take 2)),.int .i64 (dval ((s.data.toList.drop 8).take 2))] (w.drewN k) fun e w'=>e = .returned (.tuple #[.int .i64 n,.nilIface])∧w'=w.drewN k):=
  fun k=>of_ok _ _ _ n _ (hl.drew k) h5
 have HL:Hid (LenTab w):=hl
 have hcmp:((strOfNums (DT n)).toList == s.toList)=true:=by
  rw [ByteArray.toList_eq,ByteArray.toList_eq]
  show ((strOfNums (dtx _ _ _)).data.toList == _)=true
  rw [dtx_data]
  exact beq_iff_eq.2 h4
 clear hl h h1 h4 h5
 go_enter Tryz.func165,Tryz.ntmps165
 go_wp2_with fail
 go_quiet (first
  | (go_at_call 208;refine Calls.quiet_of_same (dvalue_any _ _ (by rw [ByteArray.size_extract];omega)))
  | (go_at_call 207;refine Calls.quiet_of_same (HO.out _)))
 clear HO
 go_wp2_with fail
 refine (dprint_ok n _ (HL.out.drew _) h2 h3).mono ?_
 rintro e w1 ⟨rfl,hb1⟩
 go_wp2
 go_ret2
 exact ⟨rfl,(below_drewN (Below.refl _ _) _).trans hb1⟩
theorem dparsed_bad {l:List UInt8} (hl:l.length=10) (h:dparsed l=none) :
  ofDay (dval (l.take 4)) (dval ((l.drop 5).take 2)) (dval (l.drop 8))=none∨∃ n,ofDay (dval (l.take 4)) (dval ((l.drop 5).take 2)) (dval (l.drop 8))=some n∧bts (DT n) ≠ l:=by
 rcases ho:ofDay (dval (l.take 4)) (dval ((l.drop 5).take 2)) (dval (l.drop 8)) with _ | n
 ·left;rfl
 ·right;refine ⟨n,rfl,fun e=>?_⟩
  unfold dparsed at h
  rw [if_pos hl,ho] at h
  simp [e] at h
set_option maxHeartbeats 2000000 in
theorem dparse_bad (s:ByteArray) (w:World) (hl:LenTab w) (_hz:s.size≤maxLen) (h:dparsed s.data.toList=none) :
  Calls Tryz.prog 165 #[.string s] w fun e w'=>e = .returned (.tuple #[.int .i64 0,.iface 69 (.int .i64 3)])∧Below w.heap.size w w':=by
 by_cases hs:s.size=10
 ·have HL:Hid (LenTab w):=hl
  rcases dparsed_bad (by rw [dba_len];exact hs) h with h5 | ⟨n,h5,h4⟩
  ·rw [← drop8 s hs] at h5
   have HO:Hid (∀ k,Calls Tryz.prog 207 #[.int .i64 (dval (s.data.toList.take 4)),.int .i64 (dval ((s.data.toList.drop 5).take 2)),.int .i64 (dval ((s.data.toList.drop 8).take 2))] (w.drewN k) fun e w'=>e = .returned (.tuple #[.int .i64 0,.iface 69 (.int .i64 1)])∧w'=w.drewN k):=
    fun k=>of_bad _ _ _ _ (hl.drew k) h5
   clear hl h h5
   go_enter Tryz.func165,Tryz.ntmps165
   go_wp2_with fail
   go_quiet (first
    | (go_at_call 208;refine Calls.quiet_of_same (dvalue_any _ _ (by rw [ByteArray.size_extract];omega)))
    | (go_at_call 207;refine Calls.quiet_of_same (HO.out _)))
   clear HO
   go_wp2
   go_ret2
   exact ⟨rfl,below_drewN (Below.refl _ _) _⟩
  ·have hn:=ofDay_some h5
   have h2:=hn.2.2.2.2.2.2.2.1
   have h3:=hn.2.2.2.2.2.2.2.2.1
   rw [← drop8 s hs] at h5
   have HO:Hid (∀ k,Calls Tryz.prog 207 #[.int .i64 (dval (s.data.toList.take 4)),.int .i64 (dval ((s.data.toList.drop 5).take 2)),.int .i64 (dval ((s.data.toList.drop 8).take 2))] (w.drewN k) fun e w'=>e = .returned (.tuple #[.int .i64 n,.nilIface])∧w'=w.drewN k):=
    fun k=>of_ok _ _ _ n _ (hl.drew k) h5
   have hcmp:((strOfNums (DT n)).toList == s.toList)=false:=by
    rw [ByteArray.toList_eq,ByteArray.toList_eq]
    show ((strOfNums (dtx _ _ _)).data.toList == _)=false
    rw [dtx_data]
    exact beq_eq_false_iff_ne.2 h4
   clear hl h h4 h5 hn
   go_enter Tryz.func165,Tryz.ntmps165
   go_wp2_with fail
   go_quiet (first
    | (go_at_call 208;refine Calls.quiet_of_same (dvalue_any _ _ (by rw [ByteArray.size_extract];omega)))
    | (go_at_call 207;refine Calls.quiet_of_same (HO.out _)))
   clear HO
   go_wp2_with fail
   refine (dprint_ok n _ (HL.out.drew _) h2 h3).mono ?_
   rintro e w1 ⟨rfl,hb1⟩
   go_wp2
   go_ret2
   exact ⟨rfl,(below_drewN (Below.refl _ _) _).trans hb1⟩
 ·clear h
  go_enter Tryz.func165,Tryz.ntmps165
  go_wp2
  go_ret2
  exact ⟨rfl,Below.refl _ _⟩
end Go.Proofs.YtbleojodidbhiaaGreatDoor
