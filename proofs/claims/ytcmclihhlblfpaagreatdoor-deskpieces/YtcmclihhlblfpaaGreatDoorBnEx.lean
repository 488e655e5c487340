/-  -/
import Derived.Test.YtcmclihhlblfpaaGreatDoorBnEv
import Derived.Test.YtcmclihhlblfpaaGreatDoorHsM
import Derived.Test.YtcmclihhlblfpaaGreatDoorBnSa
namespace Go.Proofs.YtcmclihhlblfpaaGreatDoor
open Go.RowKit
theorem dK_1:dK 1=0∧dD 1=2:=of_isDay (ofDay_some (show ofDay 1900 1 2=some 1 by decide)).2.2.2.2.2.2.2.2.2
theorem DT_1:bts (DT 1)=[49,57,48,48,45,48,49,45,48,50]:=by
 unfold DT;rw [dK_1.1,dK_1.2];decide
theorem amt_50:byt (amt 50)=[48,46,53,48]:=by
 unfold amt amtSize
 have e:wdN (Int.natAbs 50 / 100)=1:=wdN_small _ (by decide)
 rw [e];decide
theorem itoa_3:Lib.itoa 3=[51]:=by
 rw [itoa_pos 3 (by omega),show (3:Int).toNat=3 from rfl,dec_one 3 (by omega)];rfl
def evNail:Ev:=⟨0,⟨#[110,97,105,108]⟩,1,3,50,0,1⟩
def txNail:ByteArray:=⟨#[49,57,48,48,45,48,49,45,48,50,32,105,110,32,110,97,105,108,32,51,32,97,116,32,48,46,53,48]⟩
theorem nail_rt:Rt evNail:=by
 refine ⟨⟨by decide,?_,?_⟩,by decide,.inl (by decide)⟩
 ·intro c hc
  have:c=110:=by
   have h:some (110:UInt8)=some c:=hc
   cases h;rfl
  subst this;unfold isLet;decide
 ·intro c hc
  have h:c ∈ ([110,97,105,108]:List UInt8):=hc
  simp only [List.mem_cons,List.not_mem_nil,or_false] at h
  left
  rcases h with rfl | rfl | rfl | rfl <;> (unfold isLet;decide)
theorem nail_tx:ET evNail=txNail.data.toList:=by
 have e:ET evNail=bts (DT 1) ++ 32 :: ([105,110] ++ 32 :: ([110,97,105,108] ++ 32 :: (Lib.itoa 3 ++ 32 :: ([97,116] ++ 32 :: byt (amt 50))))):=rfl
 rw [e,DT_1,amt_50,itoa_3];rfl
theorem nail_w:EvW evNail:=⟨by decide,by decide,by decide,by decide,by decide,by decide,by decide⟩
theorem dK_jan0 {n:Int} (h0:0≤n) (h1:n≤30):dK n=0:=(of_isDay (n:=n) (k:=0) (d:=n + 1) ⟨by omega,by rw [show klen 0=31 by decide];omega,by simp [kfd]⟩).1
def k1:List UInt8:=[112,111,115,116,32,49,57,48,48,45,48,49,45,48,50,32,105,110,32,110,97,105,108,32,51,32,97,116,32,48,46,53,48]
def k2:List UInt8:=[99,108,111,115,101,32,49,57,48,48,45,48,49]
def k3:List UInt8:=[99,111,114,114,101,99,116,32,49,32,49,57,48,48,45,48,49,45,48,51,32,105,110,32,110,97,105,108,32,52,32,97,116,32,48,46,53,48]
def evN (id q d:Int):Ev:=⟨id,⟨#[110,97,105,108]⟩,1,q,50,0,d⟩
theorem evN_rt (id:Int) {q d:Int} (hq:1≤q∧q≤100000) (hd:0≤d∧d≤99999):Rt (evN id q d):=⟨nail_rt.1,hd,.inl ⟨rfl,hq,(by show (0:Int)≤50∧(50:Int)≤1000000;decide),rfl⟩⟩
theorem k1_cut:cutL k1=(wPost,txNail.data.toList):=by decide
theorem k2_cut:cutL k2=(wClose,[49,57,48,48,45,48,49]):=by decide
def tx3:List UInt8:=[49,57,48,48,45,48,49,45,48,51,32,105,110,32,110,97,105,108,32,52,32,97,116,32,48,46,53,48]
theorem k3_cut:cutL k3=(wCorr,49 :: 32 :: tx3):=by decide
theorem k3_cut2:cutL (49 :: 32 :: tx3)=([49],tx3):=by decide
theorem dK_2:dK 2=0∧dD 2=3:=of_isDay (ofDay_some (show ofDay 1900 1 3=some 2 by decide)).2.2.2.2.2.2.2.2.2
theorem dK_0:dK 0=0∧dD 0=1:=of_isDay (ofDay_some (show ofDay 1900 1 1=some 0 by decide)).2.2.2.2.2.2.2.2.2
theorem DT_2:bts (DT 2)=[49,57,48,48,45,48,49,45,48,51]:=by
 unfold DT;rw [dK_2.1,dK_2.2];decide
theorem DT_0:bts (DT 0)=[49,57,48,48,45,48,49,45,48,49]:=by
 unfold DT;rw [dK_0.1,dK_0.2];decide
theorem itoa_4:Lib.itoa 4=[52]:=by
 rw [itoa_pos 4 (by omega),show (4:Int).toNat=4 from rfl,dec_one 4 (by omega)];rfl
theorem itoa_1:Lib.itoa 1=[49]:=by
 rw [itoa_pos 1 (by omega),show (1:Int).toNat=1 from rfl,dec_one 1 (by omega)];rfl
theorem ev1:evOf txNail.data.toList=some (evN 0 3 1):=evOf_is ⟨nail_rt,rfl,nail_tx⟩
theorem ev3:evOf tx3=some (evN 0 4 2):=by
 refine evOf_is ⟨evN_rt 0 (by decide) (by decide),rfl,?_⟩
 have e:ET (evN 0 4 2)=bts (DT 2) ++ 32 :: ([105,110] ++ 32 :: ([110,97,105,108] ++ 32 :: (Lib.itoa 4 ++ 32 :: ([97,116] ++ 32 :: byt (amt 50))))):=rfl
 rw [e,DT_2,amt_50,itoa_4];rfl
theorem num1:numO [49]=some 1:=by
 have e:Lib.atoiAll [49] = .ok 1:=by rw [← itoa_1];exact atoi_itoa 1 (by decide) (by decide)
 unfold numO
 rw [e]
 simp [itoa_1]
theorem day0:dparsed ([49,57,48,48,45,48,49] ++ [45,48,49])=some 0:=by
 have e:([49,57,48,48,45,48,49] ++ [45,48,49]:List UInt8)=bts (DT 0):=by rw [DT_0];rfl
 rw [e];exact dparsed_DT (by omega) (by omega)
def kb1:Bk:=⟨[⟨evN 1 3 1,1,0⟩],1,1⟩
def kF:Fig:=⟨150,0,0,0,0⟩
theorem kb1_is:postB bk0 (evN 0 3 1)=kb1:=rfl
theorem do1:doH hs0 k1=⟨tPosted ++ [49],0,⟨kb1,[],[k1]⟩⟩:=by
 have hd:deedD hs0.bk hs0.cs (cutL k1).1 (cutL k1).2=⟨tPosted ++ [49],0,kb1,[]⟩:=by
  rw [k1_cut]
  unfold deedD
  rw [if_pos rfl]
  unfold postD
  simp only [ev1]
  rw [if_pos (by simp [hs0,bk0])]
  have e1:Lib.itoa (hs0.bk.g + 1)=[49]:=itoa_1
  have e2:lateT hs0.cs (evN 0 3 1)=[]:=rfl
  rw [e1,e2,List.append_nil]
  rfl
 unfold doH
 rw [if_neg (by decide),hd]
 rfl
theorem k_ordd:ordd [evN 1 3 1]=[evN 1 3 1]:=by
 unfold ordd
 rw [filter_rt (fun e he=>by rw [List.mem_singleton] at he;rw [he];exact evN_rt 1 (by decide) (by decide))]
 exact List.perm_singleton.1 (stl_perm [evN 1 3 1])
theorem kF_ok:kF.ok:=by constructor <;> (unfold I64 kF;simp)
theorem k_line:figOf 1 (doE stk0 (evN 1 3 1)).2=kF:=by
 have e:(doE stk0 (evN 1 3 1)).2=⟨1,150,0,0,false⟩:=by simp [doE,evN]
 rw [e]
 simp [figOf,kF]
theorem k_mons:mons [evN 1 3 1]=[⟨0,kF⟩]:=by
 unfold mons
 rw [k_ordd]
 show [(⟨(dK 1:Int),fig0.plus (figOf 1 (doE stk0 (evN 1 3 1)).2)⟩:Mon)]=_
 rw [dK_jan0 (by decide) (by decide),k_line,fig0_plus kF_ok]
 rfl
theorem k_clF:clF kb1 [] 0=kF:=by
 unfold clF
 rw [show asOf kb1 kb1.n=[evN 1 3 1] from rfl,srt_one]
 unfold untl
 rw [k_mons]
 show (if (0:Int)≤0 then fig0.plus kF else fig0)=kF
 rw [if_pos (by decide),fig0_plus kF_ok]
def kc:List Cl:=[⟨0,1,kF⟩]
theorem do2:doH ⟨kb1,[],[k1]⟩ k2=⟨tClosed ++ [49],0,⟨kb1,kc,[k1,k2]⟩⟩:=by
 have hd:deedD kb1 [] (cutL k2).1 (cutL k2).2=⟨tClosed ++ [49],0,kb1,kc⟩:=by
  rw [k2_cut]
  unfold deedD
  rw [if_neg (by decide),if_neg (by decide),if_neg (by decide),if_pos rfl]
  unfold closeD
  simp only [day0]
  rw [if_neg (by decide),if_neg (by decide),dK_0.1]
  have e1:clF kb1 [] ((0:Nat):Int)=kF:=k_clF
  rw [e1]
  have e2:Lib.itoa ((postL kF).length:Nat)=[49]:=by
   have:(postL kF).length=1:=by decide
   rw [this]
   exact itoa_1
  rw [e2]
  rfl
 unfold doH
 rw [if_neg (by decide)]
 simp only [hd]
 rfl
theorem do3:(doH ⟨kb1,kc,[k1,k2]⟩ k3).told=tCorrected ++ tLate∧(doH ⟨kb1,kc,[k1,k2]⟩ k3).c=0:=by
 have hk:kIx kb1.vs 1=0:=by decide
 have hd:deedD kb1 kc (cutL k3).1 (cutL k3).2=⟨tCorrected ++ tLate,0,corrB kb1 0 1 (evN 0 4 2),kc⟩:=by
  rw [k3_cut]
  unfold deedD
  rw [if_neg (by decide),if_pos rfl]
  unfold corrD
  rw [k3_cut2]
  simp only [num1,ev3]
  rw [hk,if_neg (by decide),if_pos (by decide)]
  have e2:lateT kc (evN 0 4 2)=tLate:=by
   unfold lateT
   rw [show (evN 0 4 2).day=2 from rfl,dK_2.1]
   rfl
  rw [e2]
  rfl
 unfold doH
 rw [if_neg (by decide)]
 simp only [hd]
 exact ⟨rfl,rfl⟩
theorem k_good:GoodL [k1,k2]∧runH [k1,k2]=⟨kb1,kc,[k1,k2]⟩:=by
 have r1:runH [k1]=⟨kb1,[],[k1]⟩:=by
  show (doH hs0 k1).h=_
  rw [do1]
 have g1:GoodL [k1]:=good_snoc good_nil (by show (doH hs0 k1).c=0;rw [do1])
 refine ⟨good_snoc (ls:=[k1]) g1 (by rw [r1,do2]),?_⟩
 have:=run_snoc [k1] k2
 rw [r1,do2] at this
 exact this
end Go.Proofs.YtcmclihhlblfpaaGreatDoor
set_option linter.unusedVariables false
namespace Go.Proofs.YtcmclihhlblfpaaGreatDoor
open Go.RowKit
def xNail:ByteArray:=⟨#[110,97,105,108]⟩
def xt2:List UInt8:=[49,57,48,48,45,48,49,45,48,53,32,111,117,116,32,110,97,105,108,32,49]
def xp2:List UInt8:=[112,111,115,116,32,49,57,48,48,45,48,49,45,48,53,32,111,117,116,32,110,97,105,108,32,49]
def xe (id:Int):Ev:=⟨id,⟨#[110,97,105,108]⟩,3,1,0,0,4⟩
theorem xe_rt (id:Int):Rt (xe id):=⟨nail_rt.1,(by show (0:Int)≤4∧(4:Int)≤99999;decide),.inr (.inr (.inl ⟨rfl,(by show (1:Int)≤1∧(1:Int)≤100000;decide),rfl,rfl⟩))⟩
theorem dec_more (n:Nat) (h:10≤n):Lib.decDigits n=Lib.decDigits (n / 10) ++ [UInt8.ofNat (48 + n % 10)]:=by
 conv=>lhs;unfold Lib.decDigits
 rw [dif_neg (by omega)]
theorem dK_4:dK 4=0∧dD 4=5:=of_isDay (ofDay_some (show ofDay 1900 1 5=some 4 by decide)).2.2.2.2.2.2.2.2.2
theorem DT_4:bts (DT 4)=[49,57,48,48,45,48,49,45,48,53]:=by
 unfold DT;rw [dK_4.1,dK_4.2];decide
theorem dK_30:dK 30=0∧dD 30=31:=of_isDay (ofDay_some (show ofDay 1900 1 31=some 30 by decide)).2.2.2.2.2.2.2.2.2
theorem DT_30:bts (DT 30)=[49,57,48,48,45,48,49,45,51,49]:=by
 unfold DT;rw [dK_30.1,dK_30.2];decide
theorem dK_31:dK 31=1∧dD 31=1:=of_isDay (ofDay_some (show ofDay 1900 2 1=some 31 by decide)).2.2.2.2.2.2.2.2.2
theorem DT_31:bts (DT 31)=[49,57,48,48,45,48,50,45,48,49]:=by
 unfold DT;rw [dK_31.1,dK_31.2];decide
theorem itoa_2:Lib.itoa 2=[50]:=by
 rw [itoa_pos 2 (by omega),show (2:Int).toNat=2 from rfl,dec_one 2 (by omega)];rfl
theorem itoa_31:Lib.itoa 31=[51,49]:=by
 rw [itoa_pos 31 (by omega),show (31:Int).toNat=31 from rfl,dec_more 31 (by omega),show 31 / 10=3 from rfl,dec_one 3 (by omega)];rfl
theorem x_ev2:evOf xt2=some (xe 0):=by
 refine evOf_is ⟨xe_rt 0,rfl,?_⟩
 have e:ET (xe 0)=bts (DT 4) ++ 32 :: ([111,117,116] ++ 32 :: ([110,97,105,108] ++ 32 :: Lib.itoa 1)):=rfl
 rw [e,DT_4,itoa_1];rfl
def xb:Bk:=⟨[⟨evN 1 3 1,1,0⟩,⟨xe 2,2,0⟩],2,2⟩
def xh:Hs:=⟨xb,[],[k1,xp2]⟩
theorem xp2_cut:cutL xp2=(wPost,xt2):=by decide
theorem x_do2:doH ⟨kb1,[],[k1]⟩ xp2=⟨tPosted ++ [50],0,xh⟩:=by
 have hd:deedD kb1 [] (cutL xp2).1 (cutL xp2).2=⟨tPosted ++ [50],0,xb,[]⟩:=by
  rw [xp2_cut]
  unfold deedD
  rw [if_pos rfl]
  unfold postD
  simp only [x_ev2]
  rw [if_pos (by decide)]
  have e1:Lib.itoa (kb1.g + 1)=[50]:=itoa_2
  have e2:lateT [] (xe 0)=[]:=rfl
  rw [e1,e2,List.append_nil]
  rfl
 unfold doH
 rw [if_neg (by decide)]
 simp only [hd]
 rfl
theorem x_sort:srt [evN 1 3 1,xe 2]=[evN 1 3 1,xe 2]:=by
 refine sorted_one (srt_perm _) (srt_sorted _) ?_ (((srt_perm _).map _).nodup_iff.2 (by decide))
 decide
theorem x_as:asOf xb xb.n=[evN 1 3 1,xe 2]:=by kernel_rfl
theorem x_rt:∀ e ∈ [evN 1 3 1,xe 2],Rt e:=fun e he=>by
 simp only [List.mem_cons,List.not_mem_nil,or_false] at he
 rcases he with rfl | rfl
 ·exact evN_rt 1 (by decide) (by decide)
 ·exact xe_rt 2
theorem x_ordd:ordd [evN 1 3 1,xe 2]=[evN 1 3 1,xe 2]:=by
 rw [ordd_stl x_rt]
 refine sorted_one (stl_perm _) (stl_sorted _) ?_ (((stl_perm _).map _).nodup_iff.2 (by decide))
 decide
theorem x_up:evUp xb 30 (-1)=[evN 1 3 1,xe 2]:=by
 unfold evUp
 rw [show tOf xb (-1)=xb.n from rfl,x_as,x_sort]
 kernel_rfl
theorem x_st:stUp xb 30 (-1)=goS stk00 [evN 1 3 1,xe 2]:=by
 unfold stUp
 rw [x_up,x_ordd]
def xLay:Lay:=⟨1,2,100⟩
theorem x_one:(doE stk0 (evN 1 3 1))=(⟨[⟨1,3,150⟩],50⟩,⟨1,150,0,0,false⟩):=by kernel_rfl
theorem x_two:(doE ⟨[⟨1,3,150⟩],50⟩ (xe 2))=(⟨[xLay],50⟩,⟨2,50,0,0,false⟩):=by kernel_rfl
theorem x_goS:goS stk00 [evN 1 3 1,xe 2]=upd (upd stk00 xNail ⟨[⟨1,3,150⟩],50⟩) xNail ⟨[xLay],50⟩:=by
 show goS (upd stk00 (evN 1 3 1).item (doE (stk00 (evN 1 3 1).item) (evN 1 3 1)).1) [xe 2]=_
 rw [show (stk00 (evN 1 3 1).item)=stk0 from rfl,x_one]
 show upd (upd stk00 xNail ⟨[⟨1,3,150⟩],50⟩) xNail (doE ((upd stk00 xNail ⟨[⟨1,3,150⟩],50⟩) xNail) (xe 2)).1=_
 rw [show ((upd stk00 xNail ⟨[⟨1,3,150⟩],50⟩) xNail)=(⟨[⟨1,3,150⟩],50⟩:Stk) from by unfold upd;rw [if_pos rfl],x_two]
theorem x_goL:goL stk00 [evN 1 3 1,xe 2]=[⟨1,150,0,0,false⟩,⟨2,50,0,0,false⟩]:=by
 show (doE (stk00 (evN 1 3 1).item) (evN 1 3 1)).2 :: (doE ((upd stk00 xNail (doE (stk00 (evN 1 3 1).item) (evN 1 3 1)).1) xNail) (xe 2)).2 :: []=_
 rw [show (stk00 (evN 1 3 1).item)=stk0 from rfl,x_one]
 rw [show ((upd stk00 xNail ⟨[⟨1,3,150⟩],50⟩) xNail)=(⟨[⟨1,3,150⟩],50⟩:Stk) from by unfold upd;rw [if_pos rfl],x_two]
theorem x_at (x:ByteArray):(stUp xb 30 (-1) x).ys=if x=xNail then [xLay] else []:=by
 rw [x_st,x_goS]
 unfold upd
 split
 ·rfl
 ·rfl
theorem x_keys:keysOf (fun x=>(stUp xb 30 (-1) x).ys ≠ [])=[xNail]:=by
 refine keysOf_is ⟨by simp,?_,by simp⟩
 intro x
 rw [x_at]
 by_cases h:x=xNail
 ·simp [h]
 ·simp [h]
theorem amt_100:byt (amt 100)=[49,46,48,48]:=by
 unfold amt amtSize
 have e:wdN (Int.natAbs 100 / 100)=1:=wdN_small _ (by decide)
 rw [e];decide
theorem amt_m150:byt (amt (-150))=[45,49,46,53,48]:=by
 unfold amt amtSize
 have e:wdN (Int.natAbs (-150) / 100)=1:=wdN_small _ (by decide)
 rw [e];decide
theorem x_at_told:atT xh 30 (-1)=[97,116,32,110,97,105,108,58,50,61,49,46,48,48]:=by
 unfold atT
 show dAt ++ (keysOf fun x=>(stUp xb 30 (-1) x).ys ≠ []).flatMap _=_
 rw [x_keys]
 show dAt ++ (amountT xNail (sumQ (stUp xb 30 (-1) xNail).ys) (sumV (stUp xb 30 (-1) xNail).ys) ++ [])=_
 rw [x_at,if_pos rfl]
 show dAt ++ ((32 :: (xNail.data.toList ++ 58 :: (Lib.itoa 2 ++ 61 :: byt (amt 100)))) ++ [])=_
 rw [itoa_2,amt_100]
 decide
def xF:Fig:=⟨150,50,0,0,0⟩
theorem x_mons:mons [evN 1 3 1,xe 2]=[⟨0,xF⟩]:=by
 unfold mons
 rw [x_ordd,x_goL]
 show monsA (addM [] (dK 1:Int) (figOf 1 ⟨1,150,0,0,false⟩)) [(xe 2,⟨2,50,0,0,false⟩)]=_
 show addM (addM [] (dK 1:Int) (figOf 1 ⟨1,150,0,0,false⟩)) (dK 4:Int) (figOf 3 ⟨2,50,0,0,false⟩)=_
 rw [dK_jan0 (by decide) (by decide),dK_4.1]
 kernel_rfl
theorem x_op:opF xh=xF:=by
 unfold opF
 show unp (untl (srt (asOf xb xb.n)) 3300) []=_
 rw [x_as,x_sort]
 unfold untl
 rw [x_mons]
 kernel_rfl
theorem x_posts:postsL xh=[⟨aStock,aSupply,150⟩,⟨aSold,aStock,50⟩]:=by
 unfold postsL
 rw [x_op]
 kernel_rfl
theorem x_bal:bal aSold 0 [⟨aStock,aSupply,150⟩,⟨aSold,aStock,50⟩]=50∧bal aStock 0 [⟨aStock,aSupply,150⟩,⟨aSold,aStock,50⟩]=100∧bal aSupply 0 [⟨aStock,aSupply,150⟩,⟨aSold,aStock,50⟩] = -150:=⟨by kernel_rfl,by kernel_rfl,by kernel_rfl⟩
theorem x_acc:keysOf (fun x=>x ∈ accs [⟨aStock,aSupply,150⟩,⟨aSold,aStock,50⟩])=[aSold,aStock,aSupply]:=by
 refine keysOf_is ⟨by decide,?_,by decide⟩
 intro x
 have e:accs [⟨aStock,aSupply,150⟩,⟨aSold,aStock,50⟩]=[aStock,aSupply,aSold,aStock]:=rfl
 rw [e]
 simp only [List.mem_cons,List.not_mem_nil,or_false]
 constructor
 ·rintro (h | h | h) <;> simp [h]
 ·rintro (h | h | h | h) <;> simp [h]
theorem x_trial:trialT xh=[116,114,105,97,108,32,115,111,108,100,61,48,46,53,48,32,115,116,111,99,107,61,49,46,48,48,32,115,117,112,112,108,121,61,45,49,46,53,48]:=by
 unfold trialT
 rw [x_posts,x_acc]
 show dTrial ++ (balT _ aSold ++ (balT _ aStock ++ (balT _ aSupply ++ [])))=_
 unfold balT amT
 rw [x_bal.1,x_bal.2.1,x_bal.2.2,amt_50,amt_100,amt_m150]
 decide
theorem x_day:dparsed [49,57,48,48,45,48,50,45,48,49]=some 31:=by
 rw [← DT_31];exact dparsed_DT (by omega) (by omega)
theorem x_day2:dparsed [49,57,48,48,45,48,49,45,51,49]=some 30:=by
 rw [← DT_30];exact dparsed_DT (by omega) (by omega)
theorem x_sum:sumL [49,50,51,52,53,54,55,56,57]=3421780262:=by kernel_rfl
theorem x_itoa:Lib.itoa (3421780262:Nat)=[51,52,50,49,55,56,48,50,54,50]:=by
 rw [itoa_pos _ (by omega),show ((3421780262:Nat):Int).toNat=3421780262 from rfl]
 rw [dec_more 3421780262 (by omega),dec_more (3421780262 / 10) (by omega),dec_more (3421780262 / 10 / 10) (by omega),dec_more (3421780262 / 10 / 10 / 10) (by omega),dec_more (3421780262 / 10 / 10 / 10 / 10) (by omega),dec_more (3421780262 / 10 / 10 / 10 / 10 / 10) (by omega),dec_more (3421780262 / 10 / 10 / 10 / 10 / 10 / 10) (by omega),dec_more (3421780262 / 10 / 10 / 10 / 10 / 10 / 10 / 10) (by omega),dec_more (3421780262 / 10 / 10 / 10 / 10 / 10 / 10 / 10 / 10) (by omega),dec_one _ (by omega)]
 decide
theorem itoa_m1:Lib.itoa (-1)=[45,49]:=by
 have e:Lib.itoa (-1)=45 :: Lib.decDigits 1:=by unfold Lib.itoa;rw [if_pos (by decide)];rfl
 rw [e,dec_one 1 (by omega)]
 rfl
theorem num_m1:numO [45,49]=some (-1):=by
 have e:Lib.atoiAll [45,49] = .ok (-1):=by kernel_rfl
 unfold numO
 rw [e]
 simp [itoa_m1]
theorem line_is {h:Hs} {l w:List UInt8} {ws:List (List UInt8)} {t:List UInt8} {h':Hs} (hf:fieldsL l=w :: ws) (hd:deskA h w ws=⟨t,0,h'⟩):lineA h l=(t,h'):=by
 rw [line_ans,hf]
 show (if (deskA h w ws).c=0 then (deskA h w ws).told else dError ++ Lib.itoa (deskA h w ws).c,(deskA h w ws).h)=_
 rw [hd]
 rfl
theorem lx1:lineA hs0 k1=(tPosted ++ [49],⟨kb1,[],[k1]⟩):=by
 refine line_is (w:=wPost) (ws:=[[49,57,48,48,45,48,49,45,48,50],[105,110],[110,97,105,108],[51],[97,116],[48,46,53,48]]) (by kernel_rfl) ?_
 rw [desk_post]
 unfold doA
 rw [show wPost ++ 32 :: joinB [[49,57,48,48,45,48,49,45,48,50],[105,110],[110,97,105,108],[51],[97,116],[48,46,53,48]]=k1 from rfl,do1]
theorem lx2:lineA ⟨kb1,[],[k1]⟩ xp2=(tPosted ++ [50],xh):=by
 refine line_is (w:=wPost) (ws:=[[49,57,48,48,45,48,49,45,48,53],[111,117,116],[110,97,105,108],[49]]) (by kernel_rfl) ?_
 rw [desk_post]
 unfold doA
 rw [show wPost ++ 32 :: joinB [[49,57,48,48,45,48,49,45,48,53],[111,117,116],[110,97,105,108],[49]]=xp2 from rfl,x_do2]
theorem lx3:lineA xh [97,116,32,49,57,48,48,45,48,49,45,51,49,32,45,49]=([97,116,32,110,97,105,108,58,50,61,49,46,48,48],xh):=by
 refine line_is (w:=dAt) (ws:=[[49,57,48,48,45,48,49,45,51,49],[45,49]]) (by kernel_rfl) ?_
 rw [desk_at]
 unfold atA
 simp only [x_day2,num_m1]
 rw [x_at_told]
theorem lx4:lineA xh [116,114,105,97,108]=([116,114,105,97,108,32,115,111,108,100,61,48,46,53,48,32,115,116,111,99,107,61,49,46,48,48,32,115,117,112,112,108,121,61,45,49,46,53,48],xh):=by
 refine line_is (w:=dTrial) (ws:=[]) (by kernel_rfl) ?_
 rw [desk_trial]
 unfold trialA
 simp only
 rw [x_trial]
theorem lx5:lineA xh [100,97,121,32,49,57,48,48,45,48,50,45,48,49]=([100,97,121,32,51,49,32,49],xh):=by
 refine line_is (w:=dDay) (ws:=[[49,57,48,48,45,48,50,45,48,49]]) (by kernel_rfl) ?_
 rw [desk_day]
 unfold dayA
 simp only [x_day]
 unfold dayT
 rw [itoa_31,dK_31.1,show Lib.itoa ((1:Nat):Int)=[49] from itoa_1]
 rfl
theorem lx6:lineA xh [115,117,109,32,49,50,51,52,53,54,55,56,57]=([115,117,109,32,51,52,50,49,55,56,48,50,54,50],xh):=by
 refine line_is (w:=dSum) (ws:=[[49,50,51,52,53,54,55,56,57]]) (by kernel_rfl) ?_
 rw [desk_sum]
 unfold sumA sumT
 rw [show joinB [[49,50,51,52,53,54,55,56,57]]=[49,50,51,52,53,54,55,56,57] from rfl,x_sum,x_itoa]
 rfl
theorem lx7 (h:Hs):lineA h [120]=([101,114,114,111,114,32,51],h):=by
 rw [line_ans,show fieldsL [120]=[[120]] by kernel_rfl]
 show (if (deskA h [120] []).c=0 then (deskA h [120] []).told else dError ++ Lib.itoa (deskA h [120] []).c,(deskA h [120] []).h)=_
 rw [desk_none h [120] [] (by decide)]
 show (dError ++ Lib.itoa 3,h)=_
 rw [itoa_3]
 rfl
def xText:List UInt8:=[112,111,115,116,32,49,57,48,48,45,48,49,45,48,50,32,105,110,32,110,97,105,108,32,51,32,97,116,32,48,46,53,48,10,112,111,115,116,32,49,57,48,48,45,48,49,45,48,53,32,111,117,116,32,110,97,105,108,32,49,10,97,116,32,49,57,48,48,45,48,49,45,51,49,32,45,49,10,116,114,105,97,108,10,100,97,121,32,49,57,48,48,45,48,50,45,48,49,10,115,117,109,32,49,50,51,52,53,54,55,56,57,10,120,10]
def xTold:List UInt8:=[112,111,115,116,101,100,32,49,10,112,111,115,116,101,100,32,50,10,97,116,32,110,97,105,108,58,50,61,49,46,48,48,10,116,114,105,97,108,32,115,111,108,100,61,48,46,53,48,32,115,116,111,99,107,61,49,46,48,48,32,115,117,112,112,108,121,61,45,49,46,53,48,10,100,97,121,32,51,49,32,49,10,115,117,109,32,51,52,50,49,55,56,48,50,54,50,10,101,114,114,111,114,32,51,10]
theorem x_split:splitL (Lib.trimSuffix xText [10])=[k1,xp2,[97,116,32,49,57,48,48,45,48,49,45,51,49,32,45,49],[116,114,105,97,108],[100,97,121,32,49,57,48,48,45,48,50,45,48,49],[115,117,109,32,49,50,51,52,53,54,55,56,57],[120]]:=by kernel_rfl
theorem x_told:sesT xText=xTold:=by
 unfold sesT
 rw [x_split]
 simp only [sessL,lx1,lx2,lx3,lx4,lx5,lx6,lx7]
 kernel_rfl
theorem split_app:∀ (a b:List UInt8),splitL (a ++ 10 :: b)=splitL a ++ splitL b
 | [],b=>by simp [splitL]
 | c :: a,b=>by
  have ih:=split_app a b
  rw [List.cons_append,splitL,splitL,ih]
  split
  ·simp
  ·cases h:splitL a with
   | nil=>
    have:=wt_split a
    rw [h] at this
    simp [wtL] at this
   | cons x xs=>simp
theorem trim_feed (a:List UInt8):Lib.trimSuffix (a ++ [10]) [10]=a:=by
 unfold Lib.trimSuffix
 simp [Lib.hasSuffix]
theorem pieces (a b:List UInt8):∃ r,sesT (a ++ 10 :: b)=sesT (a ++ [10]) ++ r:=by
 unfold sesT
 rw [trim_feed]
 have key:Lib.trimSuffix (a ++ 10 :: b) [10]=a∨∃ c,Lib.trimSuffix (a ++ 10 :: b) [10]=a ++ 10 :: c:=by
  by_cases hb:b=[]
  ·subst hb;exact Or.inl (trim_feed a)
  ·right
   obtain ⟨c,y,rfl⟩:∃ c y,b=c ++ [y]:=by
    rcases List.eq_nil_or_concat b with h | ⟨c,y,h⟩
    ·exact absurd h hb
    ·exact ⟨c,y,by rw [h,List.concat_eq_append]⟩
   by_cases hy:y=10
   ·subst hy
    refine ⟨c,?_⟩
    have:=trim_feed (a ++ 10 :: c)
    rwa [List.append_assoc,List.cons_append] at this
   ·refine ⟨c ++ [y],?_⟩
    unfold Lib.trimSuffix
    rw [if_neg]
    intro hx
    unfold Lib.hasSuffix at hx
    rw [List.isSuffixOf_iff_suffix] at hx
    obtain ⟨t,ht⟩:=hx
    have h1:=congrArg List.getLast? ht
    rw [show a ++ 10 :: (c ++ [y])=(a ++ 10 :: c) ++ [y] by simp,List.getLast?_concat,List.getLast?_concat] at h1
    exact hy (Option.some.inj h1).symm
 rcases key with e | ⟨c,e⟩
 ·exact ⟨[],by rw [e];simp⟩
 ·exact ⟨_,by rw [e,split_app,sess_app]⟩
end Go.Proofs.YtcmclihhlblfpaaGreatDoor
set_option linter.unusedVariables false
namespace Go.Proofs.YtcmclihhlblfpaaGreatDoor
open Go.RowKit
set_option maxRecDepth 20000 in
set_option maxHeartbeats 8000000 in
theorem pieces_walk (a b:ByteArray) (w:World) (hg:GlobD w) :
  Calls Tryz.prog 3 #[.string a,.string b] w fun e w'=>e = .returned (.bool true)∧Below w.heap.size w w':=by
 by_cases h1:(2500:Int) < (a.size:Int)
 ·clear hg
  go_enter Tryz.func3,Tryz.ntmps3
  go_wp2
  go_ret
  exact ⟨rfl,Below.refl _ _⟩
 by_cases h2:(2500:Int) < (b.size:Int)
 ·clear hg
  go_enter Tryz.func3,Tryz.ntmps3
  go_wp2
  go_ret
  exact ⟨rfl,Below.refl _ _⟩
 have hwr:wrap64 ((a.size:Int) + (b.size:Int))=(a.size:Int) + (b.size:Int):=by unfold wrap64;omega
 by_cases h3:(2500:Int) < (a.size:Int) + (b.size:Int)
 ·clear hg
  go_enter Tryz.func3,Tryz.ntmps3
  go_wp2
  go_ret
  exact ⟨rfl,Below.refl _ _⟩
 have HG:=hidE hg
 clear hg
 have hS1:=dsession_any (ba xText) w HG.out (by decide)
 rw [ba_data,x_told] at hS1
 have HS2:=hidE (fun (W:World) (hb:Below w.heap.size w W)=>dsession_any (a ++ ⟨#[10]⟩) W (HG.out.below hb) (by
  rw [ByteArray.size_append,show (⟨#[10]⟩:ByteArray).size=1 from rfl];omega))
 have HS3:=hidE (fun (W:World) (hb:Below w.heap.size w W)=>dsession_any (a ++ ⟨#[10]⟩ ++ b) W (HG.out.below hb) (by
  rw [ByteArray.size_append,ByteArray.size_append,show (⟨#[10]⟩:ByteArray).size=1 from rfl];omega))
 obtain ⟨r,hr⟩:=pieces a.data.toList b.data.toList
 have e1:(a ++ ⟨#[10]⟩:ByteArray).data.toList=a.data.toList ++ [10]:=by simp
 have e2:(a ++ ⟨#[10]⟩ ++ b:ByteArray).data.toList=a.data.toList ++ 10 :: b.data.toList:=by simp
 rw [e1] at HS2
 rw [e2,hr] at HS3
 obtain ⟨X,hX⟩:∃ X,X=sesT (a.data.toList ++ [10]):=⟨_,rfl⟩
 rw [← hX] at HS2 HS3
 clear hr e1 e2 hX
 go_enter Tryz.func3,Tryz.ntmps3
 go_wp2_with fail
 refine hS1.mono ?_
 rintro e w1 ⟨rfl,hb1⟩
 clear hS1
 have hcmp:((ba xTold).toList == [112,111,115,116,101,100,32,49,10,112,111,115,116,101,100,32,50,10,97,116,32,110,97,105,108,58,50,61,49,46,48,48,10,116,114,105,97,108,32,115,111,108,100,61,48,46,53,48,32,115,116,111,99,107,61,49,46,48,48,32,115,117,112,112,108,121,61,45,49,46,53,48,10,100,97,121,32,51,49,32,49,10,115,117,109,32,51,52,50,49,55,56,48,50,54,50,10,101,114,114,111,114,32,51,10])=true:=by
  rw [ByteArray.toList_eq,ba_data]
  decide
 have hq:=HS2.out w1 hb1
 have HB1:=hidE hb1
 clear hb1
 go_wp2_with fail
 refine hq.mono ?_
 rintro e w2 ⟨rfl,hb2⟩
 have hB2:=HB1.out.trans (hb2.mono HB1.out.size)
 have hq3:=HS3.out w2 hB2
 have HB2:=hidE hB2
 clear hq hb2 hB2 hcmp
 go_wp2_with fail
 refine hq3.mono ?_
 rintro e w3 ⟨rfl,hb3⟩
 have HB3:Hid (Below w.heap.size w w3):=HB2.out.trans (hb3.mono HB2.out.size)
 have hle:((ba X).size:Int)≤((ba (X ++ r)).size:Int):=by rw [ba_size,ba_size,List.length_append];omega
 have hex:(ba (X ++ r)).extract 0 (ba X).size=ba X:=by
  apply dba_ext
  rw [ext_data,ba_data,ba_data,ba_size]
  simp
 clear hq3 hb3
 go_wp2
 go_ret
 exact ⟨rfl,HB3.out⟩
theorem pieces_walk2 (a b:ByteArray) (w:World) (hg:ErrType w∧GlobH w) {p q:Prop} (_:p) (_:q) :
  Calls Tryz.prog 3 #[.string a,.string b] w fun e w'=>e = .returned (.bool true)∧Below w.heap.size w w':=pieces_walk a b w ⟨hg.2,hg.1⟩
end Go.Proofs.YtcmclihhlblfpaaGreatDoor
