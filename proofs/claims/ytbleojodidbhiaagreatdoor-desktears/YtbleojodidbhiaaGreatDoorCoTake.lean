/-  -/
import Derived.Test.YtbleojodidbhiaaGreatDoorBnE
namespace Go.Proofs.YtbleojodidbhiaaGreatDoor
open Go.RowKit
theorem LayAt.nilOf {w:World} {ad:Option Addr} {n cap:Nat} {ys:List Lay} (h:LayAt w (.slice ad n cap) ys):n=ys.length:=by
 rcases h with ⟨h,rfl⟩ | ⟨g,o,c,cur,h,_⟩
 ·cases h;rfl
 ·cases h;rfl
theorem addr_ne {g pb o o':Nat} (h:g ≠ pb):(⟨g,o,none⟩:Addr) ≠ ⟨pb,o',none⟩:=fun e=>h (by injection e)
theorem tk_done (ys:List Lay) (n:Int) (h:n≤0∨ys=[]):tk ys n=(ys,0,n):=by
 cases ys with
 | nil=>rfl
 | cons y ys=>
  rcases h with h | h
  ·unfold tk;rw [if_pos h]
  ·cases h
theorem tk_part (y:Lay) (ys:List Lay) (n:Int) (h0:0 < n) (h:n < y.qty):tk (y :: ys) n=(⟨y.id,y.qty - n,y.val - y.val * n / y.qty⟩ :: ys,y.val * n / y.qty,0):=by
 unfold tk;rw [if_neg (by omega),if_pos h]
theorem tk_whole (y:Lay) (ys:List Lay) (n:Int) (h0:0 < n) (h:¬ n < y.qty):tk (y :: ys) n=((tk ys (n - y.qty)).1,y.val + (tk ys (n - y.qty)).2.1,(tk ys (n - y.qty)).2.2):=by
 conv=>lhs;unfold tk
 rw [if_neg (by omega),if_neg h]
set_option maxHeartbeats 2000000 in
theorem take_does {pb:Nat} {sv:Value} {s:Stk} {w:World} (h:StkAt w pb sv s) (hok:∀ y ∈ s.ys,LayOK y) (hv:sumV s.ys≤4000000000000000000) (q:Int) (hq:0≤q) (hq':q≤1000000000) :
  Calls Tryz.prog 244 #[.pointer (some ⟨pb,0,none⟩),.int .i64 q] w fun r w'=>r = .returned (.tuple #[.int .i64 (tk s.ys q).2.1,.int .i64 (tk s.ys q).2.2])∧∃ sv',StkAt w' pb sv' ⟨(tk s.ys q).1,s.price⟩∧Turned w w' pb sv∧Fresh w sv sv':=by
 have HV:Hid (sumV s.ys≤4000000000000000000):=hv
 have HK:Hid (∀ y ∈ s.ys,LayOK y):=hok
 have H0:Hid (StkAt w pb sv s):=h
 clear h hv hok
 go_enter Tryz.func244,Tryz.ntmps244
 go_wp2
 go_loopw [1,4] (fun i j wr=>∃ (n v:Int) (ys:List Lay) (sv':Value),i = .int .i64 n∧j = .int .i64 v∧0≤n∧n≤q∧Hid (StkAt wr pb sv' ⟨ys,s.price⟩)∧Hid (tk s.ys q=((tk ys n).1,v + (tk ys n).2.1,(tk ys n).2.2))∧Hid (∀ y ∈ ys,LayOK y)∧0≤v∧v + sumV ys=sumV s.ys∧ys.length≤s.ys.length∧Hid (Turned w wr pb sv∧Fresh w sv sv')) (fun i _ _=>(intOf i).toNat)
 case atStart=>exact ⟨q,0,s.ys,sv,rfl,rfl,hq,Int.le_refl _,H0,by show _=_;simp,HK,Int.le_refl _,by omega,Nat.le_refl _,⟨Turned.refl _ _ _,Fresh.refl _ _⟩⟩
 case round=>
  obtain ⟨n,v,ys,sv',rfl,rfl,hn0,hnq,HS,HT,HO,hv0,hvs,hyl,HF⟩:=hrel
  have c0:=HS.out.c0
  have done:∀ (m:Int),tk ys n=(ys,0,m)→∀ r,r=Ending.returned (.tuple #[.int .i64 v,.int .i64 m])→r = .returned (.tuple #[.int .i64 (tk s.ys q).2.1,.int .i64 (tk s.ys q).2.2])∧∃ sv'',StkAt wr pb sv'' ⟨(tk s.ys q).1,s.price⟩∧Turned w wr pb sv∧Fresh w sv sv'':=fun m hm r hr=>by
   refine ⟨?_,sv',?_,HF.out.1,HF.out.2⟩
   ·rw [hr,HT.out,hm];simp
   ·rw [HT.out,hm];exact HS.out
  have DONE:Hid _:=done
  clear done
  by_cases hz:n=0
  ·subst hz
   have HD:Hid (tk ys 0=(ys,0,0)):=tk_done ys 0 (Or.inl (Int.le_refl _))
   go_wp2
   go_ret2
   exact DONE.out 0 HD.out _ rfl
  ·have hn1:0 < n:=by omega
   rcases HS.out.lay.form with ⟨e1,e2⟩ | ⟨g,o,cap,e1,hg,hc1,hc2⟩
   ·simp only at e2
    subst e1
    have HD:Hid (tk ys n=(ys,0,n)):=tk_done ys n (Or.inr e2)
    go_wp2
    go_ret2
    exact DONE.out n HD.out _ rfl
   ·subst e1
    cases ys with
    | nil=>
     have HD:Hid (tk [] n=([],0,n)):=rfl
     go_wp2
     go_ret2
     exact DONE.out n HD.out _ rfl
    | cons y ys=>
     clear DONE
     have hlc:=fun j hj=>(HS.out.lay.cell 0 j (by simp) hj).1
     have q0:=hlc 0 (by omega)
     have q1:=hlc 1 (by omega)
     have q2:=hlc 2 (by omega)
     have oky:=HO.out y (List.mem_cons_self ..)
     have hsn:=sum_nonneg (ys:=ys) fun z hz=>HO.out z (List.mem_cons_of_mem _ hz)
     have hvy:v + (y.val + sumV ys)=sumV s.ys:=hvs
     have hvb:y.val≤4000000000000000000:=by have:=HV.out;omega
     have hgp:g ≠ pb:=fun e=>HS.out.ne (by simp [Value.ownBlock,e])
     have hgp':pb ≠ g:=fun e=>hgp e.symm
     obtain ⟨id,qty,val⟩:=y
     have OKY:Hid (LayOK ⟨id,qty,val⟩):=oky
     unfold LayOK at oky
     simp only at oky hvb hvy
     simp only [layC,List.getElem_cons_zero,List.getElem?_cons_zero,List.getElem?_cons_succ,Nat.zero_mul,Nat.add_zero] at q0 q1 q2
     clear hlc hvs
     by_cases hlt:n < qty
     ·have hw:=fun W=>worth_any ⟨id,qty,val⟩ n W OKY.out hvb hn0 (by simp only;omega)
      have hpl:=part_le (v:=val) (n:=n) (q:=qty) (by omega) hn0 (by omega) (by omega)
      have HD:Hid (tk (⟨id,qty,val⟩ :: ys) n=(⟨id,qty - n,val - val * n / qty⟩ :: ys,val * n / qty,0)):=tk_part ⟨id,qty,val⟩ ys n hn1 hlt
      simp only at hw
      generalize val * n / qty=pt at hw hpl HD
      have hvp:v + pt≤4000000000000000000:=by have:=HV.out;omega
      go_wp2_with fail
      refine (hw _).mono ?_
      rintro e w1 ⟨rfl,hb1⟩
      have S1:=HS.out.below hb1
      have b0:=S1.c0
      have b1:=(S1.lay.cell 0 1 (by simp) (by omega))
      have b2:=(S1.lay.cell 0 2 (by simp) (by omega))
      simp only [layC,List.getElem_cons_zero,List.getElem?_cons_zero,List.getElem?_cons_succ,Nat.zero_mul,Nat.add_zero] at b1 b2
      obtain ⟨b1,z1⟩:=b1
      obtain ⟨b2,z2⟩:=b2
      have L2:=(S1.lay.set 0 1 (by simp) (by omega) (.int .i64 (qty - n)) ⟨id,qty - n,val⟩ rfl).set 0 2 (by simp) (by omega) (.int .i64 (val - pt)) ⟨id,qty - n,val - pt⟩ rfl
      simp only [List.set_cons_zero,Nat.zero_mul,Nat.add_zero] at L2
      have HL2:Hid (LayAt _ _ _):=L2
      have HS1:Hid (StkAt w1 pb _ _):=S1
      have HB1:Hid (Below wr.heap.size wr w1):=hb1
      have qnz:¬ qty - n=0:=by omega
      clear hw L2 S1 hb1 q0 q1 q2 c0
      go_wp2
      go_roundw
      case rel=>
       have NE:=HS1.out.ne
       have TU:Turned wr ((w1.setCell ⟨g,o + 1,none⟩ (.int .i64 (qty - n))).setCell ⟨g,o + 2,none⟩ (.int .i64 (val - pt))) pb (.slice (some ⟨g,o,none⟩) (⟨id,qty,val⟩ :: ys).length cap):=
        (Turned.of_below HB1.out).trans ((turned_row _ g _ pb (.slice (some ⟨g,o,none⟩) (⟨id,qty,val⟩ :: ys).length cap) _ rfl).trans (turned_row _ g _ pb _ _ rfl) (Fresh.refl _ _)) (Fresh.refl _ _)
       refine ⟨0,v + pt,⟨id,qty - n,val - pt⟩ :: ys,_,by go_num,rfl,Int.le_refl _,hq,⟨?_,?_,?_,?_,HL2.out,NE⟩,?_,?_,by omega,?_,hyl,?_⟩
       ·exact (set_other (addr_ne hgp)).trans ((set_other (addr_ne hgp)).trans HS1.out.c0)
       ·exact (set_other (addr_ne hgp)).trans ((set_other (addr_ne hgp)).trans HS1.out.c1)
       ·exact set_frz.trans (set_frz.trans HS1.out.f0)
       ·exact set_frz.trans (set_frz.trans HS1.out.f1)
       ·show _=_
        rw [HT.out,HD.out,tk_done _ _ (Or.inl (Int.le_refl _))]
        simp
       ·intro z hz
        rcases List.mem_cons.1 hz with rfl | hm
        ·refine ⟨?_,?_,?_⟩ <;> simp only <;> omega
        ·exact HO.out z (List.mem_cons_of_mem _ hm)
       ·simp only [sumV];omega
       ·exact ⟨HF.out.1.trans TU HF.out.2,HF.out.2⟩
      case measure=>simp [intOf];omega
     ·have hw:=fun W=>worth_any ⟨id,qty,val⟩ qty W OKY.out hvb (by omega) (by simp only;omega)
      have hqq:val * qty / qty=val:=Int.mul_ediv_cancel _ (by omega)
      have HD:Hid (tk (⟨id,qty,val⟩ :: ys) n=((tk ys (n - qty)).1,val + (tk ys (n - qty)).2.1,(tk ys (n - qty)).2.2)):=tk_whole ⟨id,qty,val⟩ ys n hn1 hlt
      simp only at hw
      rw [hqq] at hw
      have hvp:v + val≤4000000000000000000:=by have:=HV.out;omega
      have REST:∀ (W:World) (sv2:Value),StkAt W pb sv2 ⟨ys,s.price⟩→Turned wr W pb (.slice (some ⟨g,o,none⟩) (⟨id,qty,val⟩ :: ys).length cap)→Fresh wr (.slice (some ⟨g,o,none⟩) (⟨id,qty,val⟩ :: ys).length cap) sv2 →
        ∃ (n2 v2:Int) (ys2:List Lay) (sv2:Value),Value.int .i64 (n - qty) = .int .i64 n2∧Value.int .i64 (v + val) = .int .i64 v2∧0≤n2∧n2≤q∧Hid (StkAt W pb sv2 ⟨ys2,s.price⟩)∧Hid (tk s.ys q=((tk ys2 n2).1,v2 + (tk ys2 n2).2.1,(tk ys2 n2).2.2))∧Hid (∀ y ∈ ys2,LayOK y)∧0≤v2∧v2 + sumV ys2=sumV s.ys∧ys2.length≤s.ys.length∧Hid (Turned w W pb sv∧Fresh w sv sv2):=fun W sv2 x1 x2 x3=>by
       refine ⟨n - qty,v + val,ys,sv2,rfl,rfl,by omega,by omega,x1,?_,fun z hz=>HO.out z (List.mem_cons_of_mem _ hz),by omega,by omega,by simp only [List.length_cons] at hyl;omega,⟨HF.out.1.trans x2 HF.out.2,HF.out.2.trans x3 HF.out.1.size⟩⟩
       show _=_
       rw [HT.out,HD.out]
       simp only [Int.add_assoc]
      have HREST:Hid _:=REST
      have hle:qty≤n:=by omega
      have hmin:min n qty=qty:=Int.min_eq_right hle
      clear REST
      have hcap:(cap=1∧∀ x y:Nat,(if cap=1 then x else y)=x)∨(¬ cap=1∧∀ x y:Nat,(if cap=1 then x else y)=y):=by
       by_cases e:cap=1
       ·exact Or.inl ⟨e,fun x y=>if_pos e⟩
       ·exact Or.inr ⟨e,fun x y=>if_neg e⟩
      have HCAP:Hid _:=hcap
      clear hcap
      rcases Int.lt_or_eq_of_le hle with hc | hc
      rotate_left
      ·subst hc
       go_wp2_with fail
       all_goals
        refine (hw _).mono ?_
        rintro e w1 ⟨rfl,hb1⟩
        have S1:=HS.out.below hb1
        have b0:=S1.c0
        have b1:=(S1.lay.cell 0 1 (by simp) (by omega))
        have b2:=(S1.lay.cell 0 2 (by simp) (by omega))
        simp only [layC,List.getElem_cons_zero,List.getElem?_cons_zero,List.getElem?_cons_succ,Nat.zero_mul,Nat.add_zero] at b1 b2
        obtain ⟨b1,z1⟩:=b1
        obtain ⟨b2,z2⟩:=b2
        have f0:=S1.f0
        have L2:=(S1.lay.set 0 1 (by simp) (by omega) (.int .i64 0) ⟨id,0,val⟩ rfl).set 0 2 (by simp) (by omega) (.int .i64 0) ⟨id,0,0⟩ rfl
        simp only [List.set_cons_zero,Nat.zero_mul,Nat.add_zero] at L2
        have L3:=L2.tail
        obtain ⟨W2,hW2⟩:∃ W,W=(w1.setCell ⟨g,o + 1,none⟩ (.int .i64 0)).setCell ⟨g,o + 2,none⟩ (.int .i64 0):=⟨_,rfl⟩
        rw [← hW2] at L2 L3
        have TU:Turned wr W2 pb (.slice (some ⟨g,o,none⟩) (⟨id,qty,val⟩ :: ys).length cap):=by
         rw [hW2]
         exact (Turned.of_below hb1).trans ((turned_row _ g _ pb (.slice (some ⟨g,o,none⟩) (⟨id,qty,val⟩ :: ys).length cap) _ rfl).trans (turned_row _ g _ pb _ _ rfl) (Fresh.refl _ _)) (Fresh.refl _ _)
        have d0:W2.cell? ⟨pb,0,none⟩=some (.slice (some ⟨g,o,none⟩) (⟨id,qty,val⟩ :: ys).length cap):=by rw [hW2];exact (set_other (addr_ne hgp)).trans ((set_other (addr_ne hgp)).trans S1.c0)
        have d1:W2.cell? ⟨pb,1,none⟩=some (.int .i64 s.price):=by rw [hW2];exact (set_other (addr_ne hgp)).trans ((set_other (addr_ne hgp)).trans S1.c1)
        have d2:W2.frozen? ⟨pb,0,none⟩=false:=by rw [hW2];exact set_frz.trans (set_frz.trans S1.f0)
        have d3:W2.frozen? ⟨pb,1,none⟩=false:=by rw [hW2];exact set_frz.trans (set_frz.trans S1.f1)
        have END:=fun (c:Nat) (hc:∃ (x:c=(if cap=1 then o else o + 3)),True)=>HREST.out (W2.setCell ⟨pb,0,none⟩ (.slice (some ⟨g,c,none⟩) ys.length (cap - 1))) (.slice (some ⟨g,c,none⟩) ys.length (cap - 1))
         (StkAt.put0 (s:=⟨ys,s.price⟩) d0 d1 d2 d3 (by obtain ⟨hx,_⟩:=hc;rw [hx];exact L3) (by simp [Value.ownBlock,hgp]))
         (TU.trans (turned_set _ _ _ (.slice (some ⟨g,o,none⟩) (⟨id,qty,val⟩ :: ys).length cap) _) (Fresh.refl _ _)) (fun k hk=>Or.inl (by simpa [Value.ownBlock] using hk))
        have HEND:Hid _:=END
        have HW2:Hid (W2=_):=hW2
        clear hw L2 L3 S1 hb1 q0 q1 q2 c0 TU d1 d3 END hW2 d0 d2
        have hgo:qty≤100000:=by omega
        rcases HCAP.out with ⟨k1,k2⟩ | ⟨k1,k2⟩
        ·go_wp2
         go_roundw
         case rel=>
          have X:=HEND.out o ⟨(k2 o (o + 3)).symm,trivial⟩
          rw [HW2.out,k1,Int.sub_self] at X
          exact X
         case measure=>simp [intOf];omega
        ·go_wp2
         go_roundw
         case rel=>
          have X:=HEND.out (o + 3) ⟨(k2 o (o + 3)).symm,trivial⟩
          rw [HW2.out,Int.sub_self] at X
          exact X
         case measure=>simp [intOf];omega
      ·go_wp2_with fail
       refine (hw _).mono ?_
       rintro e w1 ⟨rfl,hb1⟩
       have S1:=HS.out.below hb1
       have b0:=S1.c0
       have b1:=(S1.lay.cell 0 1 (by simp) (by omega))
       have b2:=(S1.lay.cell 0 2 (by simp) (by omega))
       simp only [layC,List.getElem_cons_zero,List.getElem?_cons_zero,List.getElem?_cons_succ,Nat.zero_mul,Nat.add_zero] at b1 b2
       obtain ⟨b1,z1⟩:=b1
       obtain ⟨b2,z2⟩:=b2
       have f0:=S1.f0
       have L2:=(S1.lay.set 0 1 (by simp) (by omega) (.int .i64 0) ⟨id,0,val⟩ rfl).set 0 2 (by simp) (by omega) (.int .i64 0) ⟨id,0,0⟩ rfl
       simp only [List.set_cons_zero,Nat.zero_mul,Nat.add_zero] at L2
       have L3:=L2.tail
       obtain ⟨W2,hW2⟩:∃ W,W=(w1.setCell ⟨g,o + 1,none⟩ (.int .i64 0)).setCell ⟨g,o + 2,none⟩ (.int .i64 0):=⟨_,rfl⟩
       rw [← hW2] at L2 L3
       have TU:Turned wr W2 pb (.slice (some ⟨g,o,none⟩) (⟨id,qty,val⟩ :: ys).length cap):=by
        rw [hW2]
        exact (Turned.of_below hb1).trans ((turned_row _ g _ pb (.slice (some ⟨g,o,none⟩) (⟨id,qty,val⟩ :: ys).length cap) _ rfl).trans (turned_row _ g _ pb _ _ rfl) (Fresh.refl _ _)) (Fresh.refl _ _)
       have d0:W2.cell? ⟨pb,0,none⟩=some (.slice (some ⟨g,o,none⟩) (⟨id,qty,val⟩ :: ys).length cap):=by rw [hW2];exact (set_other (addr_ne hgp)).trans ((set_other (addr_ne hgp)).trans S1.c0)
       have d1:W2.cell? ⟨pb,1,none⟩=some (.int .i64 s.price):=by rw [hW2];exact (set_other (addr_ne hgp)).trans ((set_other (addr_ne hgp)).trans S1.c1)
       have d2:W2.frozen? ⟨pb,0,none⟩=false:=by rw [hW2];exact set_frz.trans (set_frz.trans S1.f0)
       have d3:W2.frozen? ⟨pb,1,none⟩=false:=by rw [hW2];exact set_frz.trans (set_frz.trans S1.f1)
       have END:=fun (c:Nat) (hc:∃ (x:c=(if cap=1 then o else o + 3)),True)=>HREST.out (W2.setCell ⟨pb,0,none⟩ (.slice (some ⟨g,c,none⟩) ys.length (cap - 1))) (.slice (some ⟨g,c,none⟩) ys.length (cap - 1))
        (StkAt.put0 (s:=⟨ys,s.price⟩) d0 d1 d2 d3 (by obtain ⟨hx,_⟩:=hc;rw [hx];exact L3) (by simp [Value.ownBlock,hgp]))
        (TU.trans (turned_set _ _ _ (.slice (some ⟨g,o,none⟩) (⟨id,qty,val⟩ :: ys).length cap) _) (Fresh.refl _ _)) (fun k hk=>Or.inl (by simpa [Value.ownBlock] using hk))
       have HEND:Hid _:=END
       have HW2:Hid (W2=_):=hW2
       clear hw L2 L3 S1 hb1 q0 q1 q2 c0 TU d1 d3 END hW2 d0 d2
       have hgo:qty≤100000:=by omega
       rcases HCAP.out with ⟨k1,k2⟩ | ⟨k1,k2⟩
       ·go_wp2
        go_roundw
        case rel=>
         have X:=HEND.out o ⟨(k2 o (o + 3)).symm,trivial⟩
         rw [HW2.out,k1] at X
         exact X
        case measure=>simp [intOf];omega
       ·go_wp2
        go_roundw
        case rel=>
         have X:=HEND.out (o + 3) ⟨(k2 o (o + 3)).symm,trivial⟩
         rw [HW2.out] at X
         exact X
        case measure=>simp [intOf];omega
end Go.Proofs.YtbleojodidbhiaaGreatDoor
