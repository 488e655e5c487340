/-  -/
import Derived.Test.YtbleojodidbhiaaGreatDoorBnQc
import Derived.Test.YtbleojodidbhiaaGreatDoorBnLd
import Derived.Test.YtbleojodidbhiaaGreatDoorBnLb
import Derived.Test.YtbleojodidbhiaaGreatDoorBnShb
import Derived.Test.YtbleojodidbhiaaGreatDoorBnHd
import Derived.Test.YtbleojodidbhiaaGreatDoorBnDs
import Derived.Deep.DeepCutAuto
import Derived.Defers
import Derived.Recover
set_option linter.unusedVariables false
namespace Go.Proofs.YtbleojodidbhiaaGreatDoor
open Go.RowKit
def clPs (cs:List Cl):List Pst:=cs.flatMap fun c=>postL c.posted
theorem clPs_len:∀ cs:List Cl,(clPs cs).length≤5 * cs.length
 | []=>Nat.le_refl _
 | c :: cs=>by
  have h1:=clPs_len cs
  have h2:=postL_len c.posted
  have e:clPs (c :: cs)=postL c.posted ++ clPs cs:=rfl
  rw [e,List.length_append,List.length_cons]
  omega
theorem clPs_snoc {cs:List Cl} {k:Nat} (hk:k < cs.length):clPs (cs.take (k + 1))=clPs (cs.take k) ++ postL cs[k].posted:=by
 unfold clPs
 rw [List.take_succ_eq_append_getElem hk,List.flatMap_append]
 simp
set_option maxRecDepth 20000 in
set_option maxHeartbeats 8000000 in
theorem dpostings_any {w:World} {B cb ph:Nat} {sv cv:Value} {h:Hs} (a:DkAt w B cb ph sv cv h) (ho:HsOk h) (hg:GroundD B w) :
  Calls Tryz.prog 134 #[.pointer (some ⟨cb,0,none⟩)] w fun e w'=>∃ v,e = .returned v∧w'.ownsRow w.heap.size 218 3 v (postsL h).length ((postsL h).flatMap pstC)∧Below w.heap.size w w':=by
 have cc:=a.cc
 have hcs:=ho.cs
 have hCl:=closed_any a.hs.pr (by omega)
 have HA:=hidE a
 have HO:=hidE ho
 have HG:=hidE hg
 obtain ⟨cs,hcse⟩:∃ cs,cs=h.cs:=⟨_,rfl⟩
 rw [← hcse] at hCl hcs
 have HCS:=hidE hcse
 clear a ho hg hcse
 go_enter Tryz.func134,Tryz.ntmps134
 go_wp2_with fail
 refine hCl.mono ?_
 rintro x w3 ⟨v1,rfl,hown,hb3⟩
 obtain ⟨ad1,cp1,hv1⟩:=own_lenN hown
 subst hv1
 have HO3:=hidE hown
 have HB3:=hidE hb3
 clear hCl hown
 go_wp2
 go_loopw [3,14] (fun v i wr=>∃ k:Nat,k≤cs.length∧i = .int .i64 k∧Hid (wr.ownsRow w3.heap.size 218 3 v (clPs (cs.take k)).length ((clPs (cs.take k)).flatMap pstC))∧Hid (Below w3.heap.size w3 wr)) (fun _ i _=>cs.length - (intOf i).toNat)
 case atStart=>exact ⟨0,Nat.zero_le _,rfl,World.ownsRow_nil _ _ _ _,Below.refl _ _⟩
 case round=>
  obtain ⟨k,hk,rfl,HP,HB4⟩:=hrel
  by_cases hlt:k < cs.length
  ·rcases own_form HO3.out with ⟨_,e2,_⟩ | ⟨g,cp,e1,hgB,hgl,_⟩
   ·rw [e2] at hlt;exact absurd hlt (Nat.not_lt_zero _)
   ·simp only [Value.slice.injEq] at e1
    obtain ⟨rfl,_,rfl⟩:=e1
    obtain ⟨x,hx⟩:∃ x,x=cs[k]:=⟨_,rfl⟩
    have HTK:Hid (clPs (cs.take (k + 1))=clPs (cs.take k) ++ postL x.posted):=by show _=_;rw [hx];exact clPs_snoc hlt
    have HPL:Hid ((clPs (cs.take k)).length≤300):=by
     have h1:=clPs_len (cs.take k)
     rw [List.length_take] at h1
     show _≤_
     omega
    have hcm:∀ j,j < 7→wr.cell? ⟨g,k * 7 + j,none⟩=(clC x)[j]?:=fun j hj=>by
     rw [HB4.out.cell (p:=⟨g,k * 7 + j,none⟩) hgl,(own_cell clC_len HO3.out k j hlt hj).1,hx]
    have p0:=hcm 0 (by decide)
    have p1:=hcm 1 (by decide)
    have p2:=hcm 2 (by decide)
    have p3:=hcm 3 (by decide)
    have p4:=hcm 4 (by decide)
    have p5:=hcm 5 (by decide)
    have p6:=hcm 6 (by decide)
    have hpo:=fun W=>post_any x.posted W
    have HPN:Hid ((postL x.posted).length≤5):=postL_len _
    obtain ⟨nps,hnps⟩:∃ n,n=postL x.posted:=⟨_,rfl⟩
    rw [← hnps] at hpo HTK HPN
    obtain ⟨xm,xt,x1,x2,x3,x4,x5⟩:=x
    simp only [clC,figC,List.getElem?_cons_zero,List.getElem?_cons_succ,Nat.add_zero] at p0 p1 p2 p3 p4 p5 p6
    unfold figV at hpo
    simp only at hpo
    obtain ⟨aps,haps⟩:∃ a,a=clPs (cs.take k):=⟨_,rfl⟩
    rw [← haps] at HP HTK HPL
    obtain ⟨W1,hW1⟩:∃ W,W=wr.alloc (.cells #[.int .i64 xm,.int .i64 xt,.int .i64 x1,.int .i64 x2,.int .i64 x3,.int .i64 x4,.int .i64 x5] 170):=⟨_,rfl⟩
    have hb1:Below wr.heap.size wr W1:=by rw [hW1];exact (Below.refl _ _).alloc (Nat.le_refl _) _
    have hp1:=hpo W1
    have HW1:=hidE hW1
    clear hcm hx haps hnps hpo hW1
    obtain ⟨aa,ca,hav⟩:=own_lenN HP.out
    subst hav
    go_wp2_with fail
    rw [← HW1.out]
    refine hp1.mono ?_
    rintro r w5 ⟨v5,rfl,hown5,hb5⟩
    obtain ⟨a5,c5,hv5⟩:=own_lenN hown5
    subst hv5
    have hb15:=hb1.trans (hb5.mono hb1.size)
    have HP5:Hid (w5.ownsRow w3.heap.size 218 3 (.slice aa aps.length ca) aps.length (aps.flatMap pstC)):=own_below HP.out hb15 (Nat.le_refl _)
    have HB5:Hid (Below w3.heap.size w3 w5):=HB4.out.trans (hb15.mono HB4.out.size)
    have HN5:Hid (PstsAt w5 (.slice a5 nps.length c5) nps):=PstsAt.of_own hown5
    clear hp1 hown5 hb5 p0 p1 p2 p3 p4 p5 p6 hb1 hb15
    go_wp2_with (at_builtin;refine wpList_app_psts rfl _ _ rfl w3.heap.size (.slice aa aps.length ca) aps nps rfl HP5.out (.slice a5 nps.length c5) rfl HN5.out (by have:=HPL.out;have:=HPN.out;omega) HB5.out.size ?_)
    intro v6 w6 hown6 hgr6
    obtain ⟨a6,c6,hv6⟩:=own_lenN hown6
    subst hv6
    have HB6:Hid (Below w3.heap.size w3 w6):=HB5.out.grown hgr6 HB5.out.size (fun j hj=>(HP5.out.lt j hj).1)
    have HP6:Hid (w6.ownsRow w3.heap.size 218 3 (.slice a6 (aps.length + nps.length) c6) (clPs (cs.take (k + 1))).length ((clPs (cs.take (k + 1))).flatMap pstC)):=by
     show World.ownsRow _ _ _ _ _ _ _
     rw [HTK.out,List.length_append,List.flatMap_append];exact hown6
    clear hown6 hgr6
    go_wp2
    go_roundw
    case rel=>exact ⟨k + 1,by omega,by go_num,HP6,HB6⟩
    case measure=>simp [intOf];omega
  ·obtain rfl:k=cs.length:=by omega
   rw [List.take_length] at HP
   have hkz:¬ (cs.length:Int) < (cs.length:Int):=by omega
   have HBw:Hid (Below w.heap.size w wr):=HB3.out.trans (HB4.out.mono HB3.out.size)
   have hop:=dunposted_any (HA.out.below HBw.out) HO.out (HG.out.below HBw.out)
   obtain ⟨X,hX⟩:∃ X,X=opF h:=⟨_,rfl⟩
   have HX:=hidE hX
   rw [← hX] at hop
   have hpo:=fun W:World=>post_any X W
   have HPN:Hid ((postL X).length≤5):=postL_len _
   have HPL:Hid ((clPs cs).length≤300):=by
    have h1:=clPs_len cs
    show _≤_
    omega
   obtain ⟨nps,hnps⟩:∃ n,n=postL X:=⟨_,rfl⟩
   obtain ⟨aps,haps⟩:∃ a,a=clPs cs:=⟨_,rfl⟩
   have HEQ:Hid (postsL h=aps ++ nps):=by
    show _=_
    rw [haps,hnps,hX,HCS.out]
    rfl
   rw [← hnps] at hpo HPN
   rw [← haps] at HP HPL
   clear hX hnps haps hk
   obtain ⟨X1,X2,X3,X4,X5⟩:=X
   unfold figV at hop hpo
   simp only at hop hpo
   obtain ⟨aa,ca,hav⟩:=own_lenN HP.out
   subst hav
   go_wp2_with fail
   refine hop.mono ?_
   rintro r w5 ⟨rfl,hb5⟩
   have HP5:Hid (w5.ownsRow w3.heap.size 218 3 (.slice aa aps.length ca) aps.length (aps.flatMap pstC)):=own_below HP.out hb5 (Nat.le_refl _)
   have HB5:Hid (Below w3.heap.size w3 w5):=HB4.out.trans (hb5.mono HB4.out.size)
   clear hop hb5 HP
   go_wp2_with fail
   refine (hpo w5).mono ?_
   rintro r w6 ⟨v6,rfl,hown6,hb6⟩
   obtain ⟨a6,c6,hv6⟩:=own_lenN hown6
   subst hv6
   have HP6:Hid (w6.ownsRow w3.heap.size 218 3 (.slice aa aps.length ca) aps.length (aps.flatMap pstC)):=own_below HP5.out hb6 (Nat.le_refl _)
   have HB6:Hid (Below w3.heap.size w3 w6):=HB5.out.trans (hb6.mono HB5.out.size)
   have HN6:Hid (PstsAt w6 (.slice a6 nps.length c6) nps):=PstsAt.of_own hown6
   clear hpo hown6 hb6 HP5 HB5
   go_wp2_with (at_builtin;refine wpList_app_psts rfl _ _ rfl w3.heap.size (.slice aa aps.length ca) aps nps rfl HP6.out (.slice a6 nps.length c6) rfl HN6.out (by have:=HPL.out;have:=HPN.out;omega) HB6.out.size ?_)
   intro v7 w7 hown7 hgr7
   obtain ⟨a7,c7,hv7⟩:=own_lenN hown7
   subst hv7
   have HB7:Hid (Below w3.heap.size w3 w7):=HB6.out.grown hgr7 HB6.out.size (fun j hj=>(HP6.out.lt j hj).1)
   have HF:Hid (w7.ownsRow w.heap.size 218 3 (.slice a7 (aps.length + nps.length) c7) (postsL h).length ((postsL h).flatMap pstC)):=by
    show World.ownsRow _ _ _ _ _ _ _
    rw [HEQ.out]
    refine own_below ?_ (Below.refl _ _) HB3.out.size
    rw [List.length_append,List.flatMap_append]
    exact hown7
   have HBF:Hid (Below w.heap.size w w7):=HB3.out.trans (HB7.out.mono HB3.out.size)
   clear hgr7 hown7 HN6 HP6
   go_wp2
   go_ret
   exact ⟨_,rfl,HF.out,HBF.out⟩
theorem posts_ok {h:Hs} (hx:HsX h):∀ p ∈ postsL h,I64 p.amt∧p.deb.size≤1000∧p.cre.size≤1000:=by
 intro p hp
 unfold postsL at hp
 rcases List.mem_append.1 hp with hp | hp
 ·obtain ⟨c,hc,hp⟩:=List.mem_flatMap.1 hp
  exact postL_ok _ (hx c hc).1 p hp
 ·exact postL_ok _ (opF_ok h) p hp
theorem posts_len {h:Hs} (ho:HsOk h):(postsL h).length≤305:=by
 have h1:=clPs_len h.cs
 have h2:=postL_len (opF h)
 have h3:=ho.cs
 unfold postsL
 rw [List.length_append,show (h.cs.flatMap fun c=>postL c.posted)=clPs h.cs from rfl]
 omega
theorem repK_len:∀ (k:Nat) (s:List UInt8),(Lib.replaceK [10] [124] k s).length≤s.length + k
 | 0,s=>Nat.le_refl _
 | k + 1,s=>by
  unfold Lib.replaceK
  split
  ·omega
  ·have ih:=repK_len k (s.drop ((Lib.index s [10]).toNat + [(10:UInt8)].length))
   rw [List.length_drop] at ih
   simp only [List.length_append,List.length_take,List.length_cons,List.length_nil] at ih ⊢
   omega
theorem rep_len (s:List UInt8):(Lib.replaceAll s [10] [124]).length≤2 * s.length:=by
 unfold Lib.replaceAll Lib.replace
 rw [if_neg (by decide)]
 have h1:=repK_len (Lib.replaceNum s [10] (-1)) s
 have h2:Lib.replaceNum s [10] (-1)≤s.length:=by
  unfold Lib.replaceNum
  rw [if_pos (Or.inl (by decide)),Lib.count_one]
  exact List.count_le_length
 omega
set_option maxRecDepth 20000 in
set_option maxHeartbeats 4000000 in
theorem dmonths_any {w:World} {B cb ph:Nat} {sv cv:Value} {h:Hs} (a:DkAt w B cb ph sv cv h) (ho:HsOk h) (hn:h.ls.length≤10000) (hg:GroundD B w) (ws:List (List UInt8)) (v:Value) (hw:WsAt w v ws) (hl:ws.length≤100000) (hj:(joinB ws).length≤100000) (hxx:HsX h) :
  Calls Tryz.prog 79 #[.pointer (some ⟨cb,0,none⟩),v] w (DkP w B cb ph sv cv (monthsA h ws)):=by
 have hz:∀ t ∈ ws,t.length≤100000:=fun t ht=>Nat.le_trans (mem_join ht) hj
 clear hl hj
 by_cases hk:ws.length=0
 rotate_left
 ·have e:monthsA h ws=anE h 3:=by
   unfold monthsA
   split
   ·exact absurd rfl hk
   ·rfl
  rw [e]
  obtain ⟨ad,cap,rfl,-,-⟩:=hw
  have hC:=dcount_bad ad ws.length cap 0 w (by omega)
  unfold thr at hC
  have HP:=hidE (fun W' (hb:Below w.heap.size w W')=>DkP.err (c:=3) a hb (by decide))
  clear a ho hg e hz hn
  go_enter Tryz.func79,Tryz.ntmps79
  go_wp2_with fail
  refine hC.mono ?_
  rintro x w1 ⟨rfl,hw1⟩
  subst w1
  clear hC
  go_wp2
  exact ⟨rfl,HP.out _ (Below.refl _ _)⟩
 obtain rfl:ws=[]:=List.eq_nil_of_length_eq_zero hk
 obtain ⟨ad,cap,rfl,-,-⟩:=hw
 have hC:=dcount_ok ad 0 cap 0 w rfl
 have HP:=hidE (fun W' (hb:Below w.heap.size w W')=>DkP.same (t:=monthsT h) a hb)
 show Calls _ _ _ _ (DkP w B cb ph sv cv ⟨monthsT h,0,h⟩)
 have hPs:=dpostings_any a ho hg
 have HL:Hid ((postsL h).length≤305):=posts_len ho
 have HPO:=hidE (posts_ok hxx)
 have HG:=hidE hg
 obtain ⟨ps,hps⟩:∃ p,p=postsL h:=⟨_,rfl⟩
 rw [← hps] at hPs HL HPO
 have HPZ:Hid ((printL ps).length≤700000):=by
  have h1:=printL_len ps HPO.out
  have h2:=HL.out
  show _≤_
  omega
 obtain ⟨rp,hrp⟩:∃ r:ByteArray,r=⟨(Lib.replaceAll (printL ps) [10] [124]).toArray⟩:=⟨_,rfl⟩
 have zr:rp.size≤1400000:=by
  have h1:=rep_len (printL ps)
  have h2:=HPZ.out
  rw [hrp]
  show (Lib.replaceAll (printL ps) [10] [124]).toArray.size≤_
  rw [List.size_toArray]
  omega
 have HT:Hid ((⟨#[109,111,110,116,104,115,32]⟩:ByteArray) ++ rp=ba (monthsT h)):=by
  show _=_
  apply dba_ext
  rw [hrp,hps]
  simp [monthsT,dMonths,ba_data,Lib.replaceAll]
 have HRP:=hidE hrp
 clear a ho hg hk hz hn hxx hps hrp
 go_enter Tryz.func79,Tryz.ntmps79
 go_wp2_with fail
 refine hC.mono ?_
 rintro x w1 ⟨rfl,hw1⟩
 subst w1
 clear hC
 go_wp2_with fail
 refine hPs.mono ?_
 rintro x w2 ⟨v2,rfl,hown,hb2⟩
 have hPr:=lprint_any ps v2 w2 (PstsAt.of_own hown) (by have:=HL.out;omega) HPO.out
 obtain ⟨ad2,cp2,hv2⟩:=own_lenN hown
 subst hv2
 clear hPs hown
 go_wp2_with fail
 refine hPr.mono ?_
 rintro x w3 ⟨rfl,hb3⟩
 have hb23:=hb2.trans (hb3.mono hb2.size)
 obtain ⟨ml,hml⟩:=(HG.out.below hb23).glob.h.ev.num.ml
 have hRp:=Tryz.strings_ReplaceAll ⟨(printL ps).toArray⟩ ⟨#[10]⟩ ⟨#[124]⟩ ml w3 (by have:=HPZ.out;show (printL ps).toArray.size < _;rw [List.size_toArray];omega) hml (by decide) (by
  have h1:=Lib.countB_le ⟨#[10]⟩ (by decide) _ ⟨(printL ps).toArray⟩ (Nat.le_refl _)
  have h2:=HPZ.out
  have h3:(⟨(printL ps).toArray⟩:ByteArray).size=(printL ps).length:=List.size_toArray
  have h4:(⟨#[124]⟩:ByteArray).size=1:=rfl
  rw [h4,h3]
  rw [h3] at h1
  omega)
 rw [show (⟨(Lib.replaceAll (⟨(printL ps).toArray⟩:ByteArray).data.toList (⟨#[10]⟩:ByteArray).data.toList (⟨#[124]⟩:ByteArray).data.toList).toArray⟩:ByteArray)=rp by rw [HRP.out]] at hRp
 clear hPr hml
 go_wp2_with fail
 refine hRp.mono ?_
 rintro x w4 ⟨rfl,hb4⟩
 clear hRp
 go_wp2
 go_ret
 rw [HT.out]
 exact HP.out _ (hb23.trans (hb4.mono hb23.size))
theorem accs_len:∀ ps:List Pst,(accs ps).length=2 * ps.length
 | []=>rfl
 | p :: ps=>by
  have h:=accs_len ps
  have e:accs (p :: ps)=p.deb :: p.cre :: accs ps:=rfl
  rw [e,List.length_cons,List.length_cons,List.length_cons]
  omega
theorem accs_sz {ps:List Pst} (h:∀ p ∈ ps,I64 p.amt∧p.deb.size≤1000∧p.cre.size≤1000) {x:ByteArray} (hx:x ∈ accs ps):x.size≤1000:=by
 unfold accs at hx
 obtain ⟨p,hp,hx⟩:=List.mem_flatMap.1 hx
 simp only [List.mem_cons,List.not_mem_nil,or_false] at hx
 rcases hx with rfl | rfl
 ·exact (h p hp).2.1
 ·exact (h p hp).2.2
theorem nodup_len {α:Type} [DecidableEq α]:∀ (l m:List α),l.Nodup→(∀ x ∈ l,x ∈ m)→l.length≤m.length
 | [],_,_,_=>Nat.zero_le _
 | a :: l,m,h,hs=>by
  obtain ⟨h1,h2⟩:=List.nodup_cons.1 h
  have ham:=hs a (List.mem_cons_self ..)
  have ih:=nodup_len l (m.erase a) h2 (fun x hx=>(List.mem_erase_of_ne (fun e:x=a=>h1 (by rw [← e];exact hx))).2 (hs x (List.mem_cons_of_mem _ hx)))
  have hl:=List.length_erase_of_mem ham
  have hp:0 < m.length:=List.length_pos_of_mem ham
  rw [List.length_cons]
  omega
set_option maxRecDepth 20000 in
set_option maxHeartbeats 4000000 in
theorem dtrial_any {w:World} {B cb ph:Nat} {sv cv:Value} {h:Hs} (a:DkAt w B cb ph sv cv h) (ho:HsOk h) (hn:h.ls.length≤10000) (hg:GroundD B w) (ws:List (List UInt8)) (v:Value) (hw:WsAt w v ws) (hl:ws.length≤100000) (hj:(joinB ws).length≤100000) (hxx:HsX h) :
  Calls Tryz.prog 84 #[.pointer (some ⟨cb,0,none⟩),v] w (DkP w B cb ph sv cv (trialA h ws)):=by
 have hz:∀ t ∈ ws,t.length≤100000:=fun t ht=>Nat.le_trans (mem_join ht) hj
 clear hl hj
 by_cases hk:ws.length=0
 rotate_left
 ·have e:trialA h ws=anE h 3:=by
   unfold trialA
   split
   ·exact absurd rfl hk
   ·rfl
  rw [e]
  obtain ⟨ad,cap,rfl,-,-⟩:=hw
  have hC:=dcount_bad ad ws.length cap 0 w (by omega)
  unfold thr at hC
  have HP:=hidE (fun W' (hb:Below w.heap.size w W')=>DkP.err (c:=3) a hb (by decide))
  clear a ho hg e hz hn
  go_enter Tryz.func84,Tryz.ntmps84
  go_wp2_with fail
  refine hC.mono ?_
  rintro x w1 ⟨rfl,hw1⟩
  subst w1
  clear hC
  go_wp2
  exact ⟨rfl,HP.out _ (Below.refl _ _)⟩
 obtain rfl:ws=[]:=List.eq_nil_of_length_eq_zero hk
 obtain ⟨ad,cap,rfl,-,-⟩:=hw
 have hC:=dcount_ok ad 0 cap 0 w rfl
 have HP:=hidE (fun W' (hb:Below w.heap.size w W')=>DkP.same (t:=trialT h) a hb)
 show Calls _ _ _ _ (DkP w B cb ph sv cv ⟨trialT h,0,h⟩)
 have hPs:=dpostings_any a ho hg
 have HL:Hid ((postsL h).length≤305):=posts_len ho
 have HPO:=hidE (posts_ok hxx)
 obtain ⟨ps,hps⟩:∃ p,p=postsL h:=⟨_,rfl⟩
 rw [← hps] at hPs HL HPO
 have HPS:=hidE hps
 clear a ho hg hk hz hn hxx hps
 go_enter Tryz.func84,Tryz.ntmps84
 go_wp2_with fail
 refine hC.mono ?_
 rintro x w1 ⟨rfl,hw1⟩
 subst w1
 clear hC
 go_wp2_with fail
 refine hPs.mono ?_
 rintro x w2 ⟨v2,rfl,hown,hb2⟩
 have hTr:=trial_any ps v2 w2 (PstsAt.of_own hown) (by have:=HL.out;omega) (fun p hp=>(HPO.out p hp).2)
 obtain ⟨ad2,cp2,hv2⟩:=own_lenN hown
 subst hv2
 clear hPs hown
 go_wp2_with fail
 refine hTr.mono ?_
 rintro x w5 ⟨v1,ks,rfl,hks,hown,hb5⟩
 obtain ⟨ad1,cp1,hv1⟩:=own_lenN hown
 subst hv1
 have HB5:Hid (Below w.heap.size w w5):=hb2.trans (hb5.mono hb2.size)
 have HO5:=hidE hown
 have HKO:Hid (keysOf (fun x=>x ∈ accs ps)=ks):=keysOf_is hks
 have hkl:ks.length≤1000:=by
  have h1:=nodup_len ks (accs ps) hks.nodup (fun x hx=>(hks.mem x).1 hx)
  rw [accs_len] at h1
  have:=HL.out
  omega
 have HSZ:Hid (∀ x ∈ ks,x.size≤1000):=fun x hx=>accs_sz HPO.out ((hks.mem x).1 hx)
 have HV:Hid (∀ x,I64 (bal x 0 ps)):=fun x=>by rw [bal_zero];exact i64_wrap _
 obtain ⟨f,hf⟩:∃ f:ByteArray→List UInt8,f=balT ps:=⟨_,rfl⟩
 have HF:=hidE hf
 have HFL:Hid (∀ x ∈ ks,(f x).length≤1100):=fun x hx=>by
  rw [hf]
  have h1:=HSZ.out x hx
  have h2:=amt_len (bal x 0 ps) (HV.out x).1 (HV.out x).2
  have h3:x.data.toList.length=x.size:=Array.length_toList
  simp only [balT,amT,List.length_cons,List.length_append,byt_length]
  omega
 have HFIN:Hid (ba (dTrial ++ ks.flatMap f)=ba (trialT h)):=by
  show _=_
  unfold trialT
  rw [hf,← HPS.out,HKO.out]
 clear hTr hks hown hf hb2 hb5
 go_wp2
 go_loopw [5,14] (fun s i wr=>∃ k:Nat,k≤ks.length∧i = .int .i64 k∧s = .string (ba (dTrial ++ (ks.take k).flatMap f))∧Hid (Below w5.heap.size w5 wr)) (fun _ i _=>ks.length - (intOf i).toNat)
 case atStart=>exact ⟨0,Nat.zero_le _,rfl,rfl,Below.refl _ _⟩
 case round=>
  obtain ⟨k,hk,rfl,rfl,HB⟩:=hrel
  by_cases hlt:k < ks.length
  ·rcases own_form HO5.out with ⟨_,e2,_⟩ | ⟨g,cp,e1,hgB,hgl,_⟩
   ·rw [e2] at hlt;exact absurd hlt (Nat.not_lt_zero _)
   ·simp only [Value.slice.injEq] at e1
    obtain ⟨rfl,_,rfl⟩:=e1
    obtain ⟨x,hx⟩:∃ x,x=ks[k]:=⟨_,rfl⟩
    have q0:=(HB.out.cell (p:=⟨g,k * 2 + 0,none⟩) hgl).trans (own_cell (m:=2) (fun _=>rfl) HO5.out k 0 hlt (by omega)).1
    have q1:=(HB.out.cell (p:=⟨g,k * 2 + 1,none⟩) hgl).trans (own_cell (m:=2) (fun _=>rfl) HO5.out k 1 hlt (by omega)).1
    rw [← hx] at q0 q1
    simp only [blcC,List.getElem?_cons_zero,List.getElem?_cons_succ,Nat.add_zero] at q0 q1
    have hxm:x ∈ ks:=by rw [hx];exact List.getElem_mem hlt
    have HS:Hid (ba (dTrial ++ (ks.take k).flatMap f) ++ ba (f x)=ba (dTrial ++ (ks.take (k + 1)).flatMap f)):=by
     show _=_
     rw [flat_snoc f hlt,← hx]
     apply dba_ext
     simp [ba_data]
    have za:(ba (f x)).size≤1100:=by rw [ba_size];exact HFL.out x hxm
    have zs:(ba (dTrial ++ (ks.take k).flatMap f)).size≤10000000:=by
     rw [ba_size,List.length_append]
     have h1:=flatB_len f 1100 (ks.take k) (fun y hy=>HFL.out y (List.mem_of_mem_take hy))
     rw [List.length_take] at h1
     have h2:(dTrial:List UInt8).length≤10:=by decide
     have h3:min k ks.length≤1000:=by omega
     omega
    obtain ⟨s0,hs0⟩:∃ s,s=ba (dTrial ++ (ks.take k).flatMap f):=⟨_,rfl⟩
    rw [← hs0] at HS zs ⊢
    clear hs0
    have zx:=HSZ.out x hxm
    obtain ⟨b,hbb⟩:∃ b,b=bal x 0 ps:=⟨_,rfl⟩
    have hbv:I64 b:=by rw [hbb];exact HV.out x
    have hPr:=fun W=>print_any b W hbv.1 hbv.2
    have zb:=am_size b hbv
    have HS2:Hid ((⟨#[32]⟩:ByteArray) ++ x ++ ⟨#[61]⟩ ++ strOfNums (amt b)=ba (f x)):=by
     show _=_
     rw [HF.out]
     apply dba_ext
     simp [balT,amT,ba_data,amt_data,hbb]
    rw [← hbb] at q1
    obtain ⟨s1,hs1⟩:∃ s,s=ba (f x):=⟨_,rfl⟩
    obtain ⟨s2,hs2⟩:∃ s,s=strOfNums (amt b):=⟨_,rfl⟩
    rw [← hs1] at HS za HS2
    rw [← hs2] at hPr zb HS2
    obtain ⟨W1,hW1⟩:∃ W,W=wr.alloc (.cells #[.string x,.int .i64 b] 194):=⟨_,rfl⟩
    have hba:Below w5.heap.size w5 W1:=by rw [hW1];exact HB.out.alloc HB.out.size _
    obtain ⟨W0,hW0⟩:∃ W,W=W1.drew:=⟨_,rfl⟩
    have hb0:Below W1.heap.size W1 W0:=by rw [hW0];exact below_drew _
    have g0:W1.cell? ⟨wr.heap.size,0,none⟩=some (.string x):=by rw [hW1];simp
    have g1:W1.cell? ⟨wr.heap.size,1,none⟩=some (.int .i64 b):=by rw [hW1];simp
    have d0:=(hb0.cell (p:=⟨wr.heap.size,0,none⟩) (World.block_lt_of_cell? _ _ g0)).trans g0
    have d1:=(hb0.cell (p:=⟨wr.heap.size,1,none⟩) (World.block_lt_of_cell? _ _ g1)).trans g1
    have f0:=fun n:Up W0=>n.cell d0
    have f1:=fun n:Up W0=>n.cell d1
    have HBA:Hid (Below w5.heap.size w5 W0):=hba.trans (hb0.mono hba.size)
    have hU:=up_ne
    have hA:=anyW_ne
    have HW1:=hidE hW1
    have HW0:=hidE hW0
    have HPR:=hidE hPr
    clear hPr hs1 hs2 hx hbb hbv hxm hW1 hW0 g0 g1 d0 d1 hba hb0
    go_wp2_with fail
    rw [← HW1.out]
    refine wp_region_stop (fun _ _ _=>False) [(.pure,0),(.pure,1),(.read,2),(.pure,3),(.pure,4),(.pure,5),(.read,6),(.make,7),(.pure,8),(.pure,9),(.pure,10)] (by kernel_rfl) (by kernel_rfl) (fun ch a w hx=>False.elim hx) ?_
    rw [← HW0.out]
    repeat ((first | refine stop_p rfl ?_ | refine stop_q rfl ?_);go_big_quiet_step (fail);refine wpQuiet_nil ?_)
    refine stop_n rfl ?_
    go_wp2_with fail
    refine (HPR.out _).mono ?_
    rintro y w6 ⟨rfl,hb6⟩
    go_wp2_with fail
    refine ⟨rfl,hb6,?_⟩
    have HB6:Hid (Below w5.heap.size w5 w6):=HBA.out.trans (hb6.mono HBA.out.size)
    clear f0 f1 q0 q1 hb6
    repeat ((first | refine stop_p rfl ?_ | refine stop_q rfl ?_);go_big_quiet_step (fail);refine wpQuiet_nil ?_)
    refine stop_nil ?_
    go_wp2
    go_roundw
    case rel=>exact ⟨k + 1,by omega,by go_num,by rw [HS2.out,HS.out],HB6⟩
    case measure=>simp [intOf];omega
  ·have HE:Hid (ks.take k=ks):=by show _=_;rw [show k=ks.length by omega,List.take_length]
   have hnn:¬ (k:Int) < (ks.length:Int):=by omega
   have HBF:Hid (Below w.heap.size w wr):=HB5.out.trans (HB.out.mono HB5.out.size)
   rw [HE.out,HFIN.out]
   clear hlt hk
   go_wp2
   go_ret
   exact HP.out _ HBF.out
end Go.Proofs.YtbleojodidbhiaaGreatDoor
set_option linter.unusedVariables false
namespace Go.Proofs.YtbleojodidbhiaaGreatDoor
open Go.RowKit
theorem tot_take:∀ (l:List (List UInt8)) (k:Nat),totL (l.take k)≤totL l
 | [],k=>by simp
 | t :: l,0=>Nat.zero_le _
 | t :: l,k + 1=>by
  have:=tot_take l k
  simp only [List.take_succ_cons,totL,List.map_cons,List.sum_cons] at this ⊢
  omega
theorem DkAt.other {w w1:World} {B cb ph p2:Nat} {sv cv s2 c2:Value} {h h2:Hs} (a:DkAt w B cb ph sv cv h) (hB:B≤w.heap.size) (hb:Below w.heap.size w w1) (a2:HsAt w1 w.heap.size p2 s2 c2 h2) :
  DkAt (w1.setCell ⟨cb,0,none⟩ (.pointer (some ⟨p2,0,none⟩))) B cb p2 s2 c2 h2∧DTurn w (w1.setCell ⟨cb,0,none⟩ (.pointer (some ⟨p2,0,none⟩))) cb ph sv cv p2 s2 c2:=by
 have lt:=a.lt
 have nm:∀ k,Mine p2 s2 c2 k→k ≠ cb:=fun k hk e=>by have:=(a2.mine hk).1;omega
 refine ⟨⟨(a2.mono hB).same fun k hk=>Below.heap_setCell _ _ _ _ (nm k hk),?_,?_,a.ge,fun hm=>nm cb hm rfl⟩,?_⟩
 ·exact set_same ((hb.cell (p:=⟨cb,0,none⟩) lt).trans a.cc)
 ·exact set_frz.trans ((hb.frozen (p:=⟨cb,0,none⟩) lt).trans a.cf)
 ·exact ⟨hb.os,hb.tape,hb.output,by have:=hb.size;simp [World.setCell];omega,fun k hk hc _=>(Below.heap_setCell _ _ _ _ hc).trans (hb.block k hk),fun k hk=>Or.inr (a2.mine hk).1⟩
set_option maxRecDepth 20000 in
set_option maxHeartbeats 4000000 in
theorem dtear_any {w:World} {B cb ph:Nat} {sv cv:Value} {h:Hs} (a:DkAt w B cb ph sv cv h) (ho:HsOk h) (hn:h.ls.length≤10000) (hg:GroundD B w) (ws:List (List UInt8)) (v:Value) (hw:WsAt w v ws) (hl:ws.length≤100000) (hj:(joinB ws).length≤100000) (hmd:Made h) (htt:totL h.ls≤100000) :
  Calls Tryz.prog 83 #[.pointer (some ⟨cb,0,none⟩),v] w (DkP w B cb ph sv cv (tearA h ws)):=by
 have hz:∀ t ∈ ws,t.length≤100000:=fun t ht=>Nat.le_trans (mem_join ht) hj
 clear hl hj
 by_cases hk:ws.length=1
 rotate_left
 ·have e:tearA h ws=anE h 3:=by
   unfold tearA
   split
   ·exact absurd rfl hk
   ·rfl
  rw [e]
  obtain ⟨ad,cap,rfl,-,-⟩:=hw
  have hC:=dcount_bad ad ws.length cap 1 w (by omega)
  unfold thr at hC
  have HP:=hidE (fun W' (hb:Below w.heap.size w W')=>DkP.err (c:=3) a hb (by decide))
  clear a ho hg e hz hn
  go_enter Tryz.func83,Tryz.ntmps83
  go_wp2_with fail
  refine hC.mono ?_
  rintro x w1 ⟨rfl,hw1⟩
  subst w1
  clear hC
  go_wp2
  exact ⟨rfl,HP.out _ (Below.refl _ _)⟩
 obtain ⟨t0,rfl⟩:∃ t0,ws=[t0]:=by
  match ws,hk with
  | [x],_=>exact ⟨x,rfl⟩
 obtain ⟨ad,cap,rfl,-,hx | ⟨bk,o,rfl,lt,c⟩⟩:=hw
 ·cases hx
 have c0:w.cell? ⟨bk,o + 0,none⟩=some (.string (ba t0)):=c 0 t0 rfl
 have z0:(ba t0).size≤100000:=by rw [ba_size];exact hz t0 (by simp)
 clear c hz
 rw [Nat.add_zero] at c0
 have hC:=dcount_ok (some ⟨bk,o,none⟩) 1 cap 1 w rfl
 rcases hm1:numO t0 with _ | u
 ·have e:tearA h [t0]=anE h 3:=by unfold tearA;simp only [hm1]
  rw [e]
  have HP:=hidE (fun W' (hb:Below w.heap.size w W')=>DkP.err (c:=3) a hb (by decide))
  obtain ⟨W0,hW0⟩:∃ W,W=w.drew:=⟨_,rfl⟩
  have hb0:Below w.heap.size w W0:=by rw [hW0];exact below_drew _
  have hU:=up_ne
  have hA:=anyW_ne
  have d0:W0.cell? ⟨bk,o,none⟩=some (.string (ba t0)):=(hb0.cell (p:=⟨bk,o,none⟩) lt).trans c0
  have f0:=fun n:Up W0=>n.cell d0
  have dc:=(a.below hb0).cc
  have fc:=fun n:Up W0=>n.cell dc
  have HG0:=hidE (hg.below hb0)
  have HB0:=hidE hb0
  have HW0:=hidE hW0
  clear hb0 hW0 d0 dc
  have hN:=dnum_bad (ba t0) W0 HG0.out.glob.h.ev.num (by omega) (by rw [ba_data];exact hm1)
  unfold thr at hN
  clear a ho hg hk hn e hm1 hmd htt
  go_enter Tryz.func83,Tryz.ntmps83
  go_wp2_with fail
  refine hC.mono ?_
  rintro x w1 ⟨rfl,hw1⟩
  subst w1
  clear hC
  go_wp2_with fail
  refine wp_region_stop (fun ch ds W'=>ds=[]∧DkP w B cb ph sv cv (anE h 3) (.panicked ch) W') [(.pure,0),(.pure,1),(.read,2),(.pure,4),(.pure,5),(.pure,6),(.read,7),(.stop,3)] (by kernel_rfl) (by kernel_rfl) (fun ch a w hx=>⟨hx.1,hx.2⟩) ?_
  rw [← HW0.out]
  repeat ((first | refine stop_p rfl ?_ | refine stop_q rfl ?_);go_big_quiet_step (fail);refine wpQuiet_nil ?_)
  refine stop_x rfl rfl ?_
  go_wp2_with fail
  refine hN.mono ?_
  rintro x w2 ⟨rfl,hb2⟩
  exact ⟨rfl,HP.out _ (HB0.out.trans (hb2.mono HB0.out.size))⟩
 ·have hbu:=numO_bd hm1
  have HTA:Hid (tearA h [t0]=if u < 0∨(totL h.ls:Int) < u then anE h 2 else ⟨dTear ++ 32 :: (Lib.itoa (wholeK u.toNat h.ls:Nat) ++ 32 :: Lib.itoa (totL (h.ls.take (wholeK u.toNat h.ls)):Nat)),0,tornH h u⟩):=by
   show _=_
   unfold tearA
   simp only [hm1]
  obtain ⟨W0,hW0⟩:∃ W,W=w.drew:=⟨_,rfl⟩
  have hb0:Below w.heap.size w W0:=by rw [hW0];exact below_drew _
  have hU:=up_ne
  have hA:=anyW_ne
  have d0:W0.cell? ⟨bk,o,none⟩=some (.string (ba t0)):=(hb0.cell (p:=⟨bk,o,none⟩) lt).trans c0
  have f0:=fun n:Up W0=>n.cell d0
  have dc:=(a.below hb0).cc
  have fc:=fun n:Up W0=>n.cell dc
  have HG0:=hidE (hg.below hb0)
  have HB0:=hidE hb0
  have HW0:=hidE hW0
  clear hb0 hW0 d0 dc
  have hN:=dnum_ok (ba t0) u W0 HG0.out.glob.h.ev.num (by omega) (by rw [ba_data];exact hm1)
  have HA:=hidE a
  have HO:=hidE ho
  have HN:=hidE hn
  have HM:=hidE hmd
  have HTT:=hidE htt
  obtain ⟨J,hJ⟩:∃ J,J=ba (framesL 0 h.ls):=⟨_,rfl⟩
  have hJz:J.size=totL h.ls:=by rw [hJ,ba_size,frames_len]
  have HJ:=hidE hJ
  clear a ho hg hk hn hm1 hmd htt hJ
  go_enter Tryz.func83,Tryz.ntmps83
  go_wp2_with fail
  refine hC.mono ?_
  rintro x w1 ⟨rfl,hw1⟩
  subst w1
  clear hC
  go_wp2_with fail
  refine wp_region_stop (fun _ _ _=>False) [(.pure,0),(.pure,1),(.read,2),(.pure,4),(.pure,5),(.pure,6),(.read,7),(.make,3),(.make,8),(.pure,9),(.pure,10)] (by kernel_rfl) (by kernel_rfl) (fun ch a w hx=>False.elim hx) ?_
  rw [← HW0.out]
  repeat ((first | refine stop_p rfl ?_ | refine stop_q rfl ?_);go_big_quiet_step (fail);refine wpQuiet_nil ?_)
  refine stop_n rfl ?_
  go_wp2_with fail
  refine hN.mono ?_
  rintro x w2 ⟨rfl,hb2⟩
  have HB2:Hid (Below w.heap.size w w2):=HB0.out.trans (hb2.mono HB0.out.size)
  go_wp2_with fail
  refine ⟨rfl,hb2,?_⟩
  have hAW:=HA.out.below HB2.out
  have hAt:=journal_any hAW.hs
  rw [← HJ.out] at hAt
  refine stop_n rfl ?_
  go_wp2_with fail
  refine hAt.mono ?_
  rintro x w5 ⟨rfl,hw5⟩
  subst w5
  go_wp2_with fail
  refine ⟨rfl,Below.refl _ _,?_⟩
  repeat ((first | refine stop_p rfl ?_ | refine stop_q rfl ?_);go_big_quiet_step (fail);refine wpQuiet_nil ?_)
  refine stop_nil ?_
  have HG2:Hid (GroundD B w2):=HG0.out.below hb2
  have HD2:=hidE hAW
  clear hN f0 fc c0 hAt hAW hb2
  by_cases h0:u < 0
  ·have HP:Hid (DkP w B cb ph sv cv (tearA h [t0]) (.panicked [{ v:=.iface 69 (.int .i64 2),recovered:=false }]) w2):=by
    show DkP _ _ _ _ _ _ _ _ _
    rw [HTA.out,if_pos (Or.inl h0)]
    exact DkP.err HA.out HB2.out (by decide)
   go_wp2
   exact ⟨rfl,HP.out⟩
  by_cases h1:(J.size:Int) < u
  ·have HP:Hid (DkP w B cb ph sv cv (tearA h [t0]) (.panicked [{ v:=.iface 69 (.int .i64 2),recovered:=false }]) w2):=by
    show DkP _ _ _ _ _ _ _ _ _
    rw [HTA.out,if_pos (Or.inr (by rw [← hJz];exact h1))]
    exact DkP.err HA.out HB2.out (by decide)
   go_wp2
   exact ⟨rfl,HP.out⟩
  ·obtain ⟨c,rfl⟩:∃ c:Nat,u=c:=⟨u.toNat,by omega⟩
   have hcj:c≤J.size:=by omega
   have HT2:Hid (tearA h [t0]=⟨dTear ++ 32 :: (Lib.itoa (wholeK c h.ls:Nat) ++ 32 :: Lib.itoa (totL (h.ls.take (wholeK c h.ls)):Nat)),0,runH (h.ls.take (wholeK c h.ls))⟩):=by
    show _=_
    rw [HTA.out,if_neg (by rw [← hJz];omega),tornH,Int.toNat_natCast]
   obtain ⟨K,hK⟩:∃ K,K=wholeK c h.ls:=⟨_,rfl⟩
   have hKl:K≤h.ls.length:=by rw [hK];exact whole_le _ _
   rw [← hK] at HT2
   have hgd:=HM.out.good.take K
   have hrl:=run_ls _ (h.ls.take K) rfl hgd
   have hrd:Rd 0 (J.extract 0 c).data.toList (h.ls.take K):=by
    rw [ext_data,HJ.out,ba_data,List.drop_zero,hK]
    exact torn h.ls 0 c (by have:=HN.out;omega) HO.out.ls (by rw [← hJz];exact hcj)
   obtain ⟨X,hX⟩:∃ X,X=J.extract 0 c:=⟨_,rfl⟩
   have hXz:X.size≤100000:=by
    rw [hX]
    have:=HTT.out
    rw [ByteArray.size_extract]
    omega
   rw [← hX] at hrd
   have hre:=restore_any X (h.ls.take K) w2 HG2.out.glob.h hXz hrd
   have HX:=hidE hX
   have HGD:=hidE hgd
   have HRL:=hidE hrl
   have HKL:=hidE hKl
   clear hrd hX hgd hrl hK hXz hKl
   go_wp2_with fail
   rw [← HX.out]
   refine hre.mono ?_
   rintro x w6 ⟨⟨_,p2,s2,c2,rfl,hA6⟩ | ⟨hng,_⟩,hb6⟩
   rotate_left
   ·exact absurd HGD.out hng
   obtain ⟨hD,hT⟩:=HD2.out.other (by have:=HD2.out.ge;have:=HD2.out.lt;omega) hb6 hA6
   have c6:=(HD2.out.below hb6).cc
   have z6:=(HD2.out.below hb6).cf
   have hlen:(h.ls.take K).length=K:=by rw [List.length_take];have:=HKL.out;omega
   rw [hlen]
   have hC6:=dcheck_nil w6
   obtain ⟨W7,hW7⟩:∃ W,W=w6.setCell ⟨cb,0,none⟩ (.pointer (some ⟨p2,0,none⟩)):=⟨_,rfl⟩
   rw [← hW7] at hD hT
   have HTW:Hid (DTurn w W7 cb ph sv cv p2 s2 c2):=(DTurn.of_below HB2.out).trans hT
   have HG7:Hid (GroundD B W7):=HG2.out.turn HD2.out hT
   have hI1:=itoaN (K:Nat) W7 HG7.out.glob.h.ev.num (by omega) (by have:=HKL.out;have:=HN.out;omega)
   have y1:=itoaZ (K:Nat) (by omega) (by have:=HKL.out;have:=HN.out;omega)
   have HT7:Hid (totL (h.ls.take K)≤100000):=by
    show _≤_
    have h2:=frames_len 0 (h.ls.take K)
    have h3:=tot_take h.ls K
    have:=HTT.out
    omega
   have HD:=hidE hD
   have HW7:=hidE hW7
   clear hre hb6 hA6 hD hT hW7 hlen
   go_wp2_with fail
   refine hC6.mono ?_
   rintro x w7 ⟨rfl,hw7⟩
   subst w7
   clear hC6
   go_wp2_with fail
   rw [← HW7.out]
   refine hI1.mono ?_
   rintro x w8 ⟨rfl,hb8⟩
   have hj8:=journal_any (HD.out.below hb8).hs
   rw [HRL.out] at hj8
   obtain ⟨J2,hJ2⟩:∃ J,J=ba (framesL 0 (h.ls.take K)):=⟨_,rfl⟩
   have hz2:J2.size=totL (h.ls.take K):=by rw [hJ2,ba_size,frames_len]
   rw [← hJ2] at hj8
   have HZ2:=hidE hz2
   clear hI1 c6 z6 hJ2 hz2
   go_wp2_with fail
   refine hj8.mono ?_
   rintro x w9 ⟨rfl,hw9⟩
   subst w9
   have hI2:=itoaN (J2.size:Nat) w8 (HG7.out.below hb8).glob.h.ev.num (by omega) (by have:=HT7.out;have:=HZ2.out;omega)
   have y2:=itoaZ (J2.size:Nat) (by omega) (by have:=HT7.out;have:=HZ2.out;omega)
   have HE:Hid ((⟨#[116,101,97,114,32]⟩:ByteArray) ++ eb (Lib.itoa (K:Nat)) ++ ⟨#[32]⟩ ++ eb (Lib.itoa (J2.size:Nat))=ba (dTear ++ 32 :: (Lib.itoa (K:Nat) ++ 32 :: Lib.itoa (totL (h.ls.take K):Nat)))):=by
    show _=_
    apply dba_ext
    rw [HZ2.out]
    simp [dTear,ba_data,eb_list]
   clear hj8
   go_wp2_with fail
   refine hI2.mono ?_
   rintro x w10 ⟨rfl,hb10⟩
   have HBF:Hid (Below W7.heap.size W7 w10):=hb8.trans (hb10.mono hb8.size)
   clear hI2 hb8 hb10
   go_wp2
   go_ret
   rw [HE.out,HT2.out]
   exact ⟨rfl,p2,s2,c2,HD.out.below HBF.out,HTW.out.trans (DTurn.of_below HBF.out)⟩
end Go.Proofs.YtbleojodidbhiaaGreatDoor
set_option linter.unusedVariables false
namespace Go.Proofs.YtbleojodidbhiaaGreatDoor
open Go.RowKit
structure DkOk (h:Hs):Prop where
 ok:HsOk h
 n:h.ls.length≤10000
 x:HsX h
 md:Made h
 tt:totL h.ls≤100000
theorem desk_at (h:Hs) (ws:List (List UInt8)):deskA h dAt ws=atA h ws:=by unfold deskA;rw [if_pos rfl]
theorem desk_change (h:Hs) (ws:List (List UInt8)):deskA h dChange ws=changeA h ws:=by unfold deskA;rw [if_neg (by decide),if_pos rfl]
theorem desk_close (h:Hs) (ws:List (List UInt8)):deskA h wClose ws=doA h wClose ws:=by unfold deskA;rw [if_neg (by decide),if_neg (by decide),if_pos rfl]
theorem desk_closed (h:Hs) (ws:List (List UInt8)):deskA h dClosed ws=closedA h ws:=by unfold deskA;rw [if_neg (by decide),if_neg (by decide),if_neg (by decide),if_pos rfl]
theorem desk_correct (h:Hs) (ws:List (List UInt8)):deskA h wCorr ws=doA h wCorr ws:=by unfold deskA;rw [if_neg (by decide),if_neg (by decide),if_neg (by decide),if_neg (by decide),if_pos rfl]
theorem desk_day (h:Hs) (ws:List (List UInt8)):deskA h dDay ws=dayA h ws:=by unfold deskA;rw [if_neg (by decide),if_neg (by decide),if_neg (by decide),if_neg (by decide),if_neg (by decide),if_pos rfl]
theorem desk_events (h:Hs) (ws:List (List UInt8)):deskA h dEvents ws=eventsA h ws:=by unfold deskA;rw [if_neg (by decide),if_neg (by decide),if_neg (by decide),if_neg (by decide),if_neg (by decide),if_neg (by decide),if_pos rfl]
theorem desk_help (h:Hs) (ws:List (List UInt8)):deskA h dHelp ws=helpA h ws:=by unfold deskA;rw [if_neg (by decide),if_neg (by decide),if_neg (by decide),if_neg (by decide),if_neg (by decide),if_neg (by decide),if_neg (by decide),if_pos rfl]
theorem desk_history (h:Hs) (ws:List (List UInt8)):deskA h dHistory ws=historyA h ws:=by unfold deskA;rw [if_neg (by decide),if_neg (by decide),if_neg (by decide),if_neg (by decide),if_neg (by decide),if_neg (by decide),if_neg (by decide),if_neg (by decide),if_pos rfl]
theorem desk_moves (h:Hs) (ws:List (List UInt8)):deskA h dMoves ws=movesA h ws:=by unfold deskA;rw [if_neg (by decide),if_neg (by decide),if_neg (by decide),if_neg (by decide),if_neg (by decide),if_neg (by decide),if_neg (by decide),if_neg (by decide),if_neg (by decide),if_pos rfl]
theorem desk_months (h:Hs) (ws:List (List UInt8)):deskA h dMonths ws=monthsA h ws:=by unfold deskA;rw [if_neg (by decide),if_neg (by decide),if_neg (by decide),if_neg (by decide),if_neg (by decide),if_neg (by decide),if_neg (by decide),if_neg (by decide),if_neg (by decide),if_neg (by decide),if_pos rfl]
theorem desk_open (h:Hs) (ws:List (List UInt8)):deskA h dOpen ws=openA h ws:=by unfold deskA;rw [if_neg (by decide),if_neg (by decide),if_neg (by decide),if_neg (by decide),if_neg (by decide),if_neg (by decide),if_neg (by decide),if_neg (by decide),if_neg (by decide),if_neg (by decide),if_neg (by decide),if_pos rfl]
theorem desk_post (h:Hs) (ws:List (List UInt8)):deskA h wPost ws=doA h wPost ws:=by unfold deskA;rw [if_neg (by decide),if_neg (by decide),if_neg (by decide),if_neg (by decide),if_neg (by decide),if_neg (by decide),if_neg (by decide),if_neg (by decide),if_neg (by decide),if_neg (by decide),if_neg (by decide),if_neg (by decide),if_pos rfl]
theorem desk_sum (h:Hs) (ws:List (List UInt8)):deskA h dSum ws=sumA h ws:=by unfold deskA;rw [if_neg (by decide),if_neg (by decide),if_neg (by decide),if_neg (by decide),if_neg (by decide),if_neg (by decide),if_neg (by decide),if_neg (by decide),if_neg (by decide),if_neg (by decide),if_neg (by decide),if_neg (by decide),if_neg (by decide),if_pos rfl]
theorem desk_tear (h:Hs) (ws:List (List UInt8)):deskA h dTear ws=tearA h ws:=by unfold deskA;rw [if_neg (by decide),if_neg (by decide),if_neg (by decide),if_neg (by decide),if_neg (by decide),if_neg (by decide),if_neg (by decide),if_neg (by decide),if_neg (by decide),if_neg (by decide),if_neg (by decide),if_neg (by decide),if_neg (by decide),if_neg (by decide),if_pos rfl]
theorem desk_trial (h:Hs) (ws:List (List UInt8)):deskA h dTrial ws=trialA h ws:=by unfold deskA;rw [if_neg (by decide),if_neg (by decide),if_neg (by decide),if_neg (by decide),if_neg (by decide),if_neg (by decide),if_neg (by decide),if_neg (by decide),if_neg (by decide),if_neg (by decide),if_neg (by decide),if_neg (by decide),if_neg (by decide),if_neg (by decide),if_neg (by decide),if_pos rfl]
theorem desk_turn (h:Hs) (ws:List (List UInt8)):deskA h dTurn ws=turnA h ws:=by unfold deskA;rw [if_neg (by decide),if_neg (by decide),if_neg (by decide),if_neg (by decide),if_neg (by decide),if_neg (by decide),if_neg (by decide),if_neg (by decide),if_neg (by decide),if_neg (by decide),if_neg (by decide),if_neg (by decide),if_neg (by decide),if_neg (by decide),if_neg (by decide),if_neg (by decide),if_pos rfl]
theorem desk_void (h:Hs) (ws:List (List UInt8)):deskA h wVoid ws=doA h wVoid ws:=by unfold deskA;rw [if_neg (by decide),if_neg (by decide),if_neg (by decide),if_neg (by decide),if_neg (by decide),if_neg (by decide),if_neg (by decide),if_neg (by decide),if_neg (by decide),if_neg (by decide),if_neg (by decide),if_neg (by decide),if_neg (by decide),if_neg (by decide),if_neg (by decide),if_neg (by decide),if_neg (by decide),if_pos rfl]
theorem found_cons (s:List UInt8) (x:List UInt8 × Nat) (l:List (List UInt8 × Nat)):foundF s (x :: l)=if s=x.1 then some x.2 else foundF s l:=by
 unfold foundF
 by_cases h:s=x.1
 ·rw [if_pos h,List.find?_cons_of_pos (by simpa using h)];rfl
 ·rw [if_neg h,List.find?_cons_of_neg (by simpa using h)]
theorem desk_none (h:Hs) (s:List UInt8) (ws:List (List UInt8)) (hf:foundF s deedTab=none):deskA h s ws=anE h 3:=by
 unfold deedTab at hf
 rw [found_cons] at hf
 by_cases n0:s=dAt
 ·rw [if_pos n0] at hf;cases hf
 rw [if_neg n0] at hf
 rw [found_cons] at hf
 by_cases n1:s=dChange
 ·rw [if_pos n1] at hf;cases hf
 rw [if_neg n1] at hf
 rw [found_cons] at hf
 by_cases n2:s=wClose
 ·rw [if_pos n2] at hf;cases hf
 rw [if_neg n2] at hf
 rw [found_cons] at hf
 by_cases n3:s=dClosed
 ·rw [if_pos n3] at hf;cases hf
 rw [if_neg n3] at hf
 rw [found_cons] at hf
 by_cases n4:s=wCorr
 ·rw [if_pos n4] at hf;cases hf
 rw [if_neg n4] at hf
 rw [found_cons] at hf
 by_cases n5:s=dDay
 ·rw [if_pos n5] at hf;cases hf
 rw [if_neg n5] at hf
 rw [found_cons] at hf
 by_cases n6:s=dEvents
 ·rw [if_pos n6] at hf;cases hf
 rw [if_neg n6] at hf
 rw [found_cons] at hf
 by_cases n7:s=dHelp
 ·rw [if_pos n7] at hf;cases hf
 rw [if_neg n7] at hf
 rw [found_cons] at hf
 by_cases n8:s=dHistory
 ·rw [if_pos n8] at hf;cases hf
 rw [if_neg n8] at hf
 rw [found_cons] at hf
 by_cases n9:s=dMoves
 ·rw [if_pos n9] at hf;cases hf
 rw [if_neg n9] at hf
 rw [found_cons] at hf
 by_cases n10:s=dMonths
 ·rw [if_pos n10] at hf;cases hf
 rw [if_neg n10] at hf
 rw [found_cons] at hf
 by_cases n11:s=dOpen
 ·rw [if_pos n11] at hf;cases hf
 rw [if_neg n11] at hf
 rw [found_cons] at hf
 by_cases n12:s=wPost
 ·rw [if_pos n12] at hf;cases hf
 rw [if_neg n12] at hf
 rw [found_cons] at hf
 by_cases n13:s=dSum
 ·rw [if_pos n13] at hf;cases hf
 rw [if_neg n13] at hf
 rw [found_cons] at hf
 by_cases n14:s=dTear
 ·rw [if_pos n14] at hf;cases hf
 rw [if_neg n14] at hf
 rw [found_cons] at hf
 by_cases n15:s=dTrial
 ·rw [if_pos n15] at hf;cases hf
 rw [if_neg n15] at hf
 rw [found_cons] at hf
 by_cases n16:s=dTurn
 ·rw [if_pos n16] at hf;cases hf
 rw [if_neg n16] at hf
 rw [found_cons] at hf
 by_cases n17:s=wVoid
 ·rw [if_pos n17] at hf;cases hf
 rw [if_neg n17] at hf
 unfold deskA
 rw [if_neg n0,if_neg n1,if_neg n2,if_neg n3,if_neg n4,if_neg n5,if_neg n6,if_neg n7,if_neg n8,if_neg n9,if_neg n10,if_neg n11,if_neg n12,if_neg n13,if_neg n14,if_neg n15,if_neg n16,if_neg n17]
theorem dkdeed_any {w:World} {B cb ph:Nat} {sv cv:Value} {h:Hs} (a:DkAt w B cb ph sv cv h) (ho:DkOk h) (hg:GroundD B w) (s:List UInt8) (f:Nat) (hf:foundF s deedTab=some f) (ws:List (List UInt8)) (v:Value) (hw:WsAt w v ws) (hl:ws.length≤100000) (hj:(joinB ws).length≤100000) :
  Calls Tryz.prog f #[.pointer (some ⟨cb,0,none⟩),v] w (DkP w B cb ph sv cv (deskA h s ws)):=by
 unfold deedTab at hf
 rw [found_cons] at hf
 by_cases n0:s=dAt
 ·rw [if_pos n0] at hf
  cases hf
  subst n0
  rw [desk_at]
  exact dat_any a ho.ok ho.n hg ws v hw hl hj
 rw [if_neg n0] at hf
 rw [found_cons] at hf
 by_cases n1:s=dChange
 ·rw [if_pos n1] at hf
  cases hf
  subst n1
  rw [desk_change]
  exact dchange_any a ho.ok ho.n hg ws v hw hl hj
 rw [if_neg n1] at hf
 rw [found_cons] at hf
 by_cases n2:s=wClose
 ·rw [if_pos n2] at hf
  cases hf
  subst n2
  rw [desk_close]
  exact dclose_any a ho.ok ho.n hg ws v hw hl hj
 rw [if_neg n2] at hf
 rw [found_cons] at hf
 by_cases n3:s=dClosed
 ·rw [if_pos n3] at hf
  cases hf
  subst n3
  rw [desk_closed]
  exact dclosed_any a ho.ok ho.n hg ws v hw hl hj ho.x
 rw [if_neg n3] at hf
 rw [found_cons] at hf
 by_cases n4:s=wCorr
 ·rw [if_pos n4] at hf
  cases hf
  subst n4
  rw [desk_correct]
  exact dcorrect_any a ho.ok ho.n hg ws v hw hl hj
 rw [if_neg n4] at hf
 rw [found_cons] at hf
 by_cases n5:s=dDay
 ·rw [if_pos n5] at hf
  cases hf
  subst n5
  rw [desk_day]
  exact dday_any a ho.ok ho.n hg ws v hw hl hj
 rw [if_neg n5] at hf
 rw [found_cons] at hf
 by_cases n6:s=dEvents
 ·rw [if_pos n6] at hf
  cases hf
  subst n6
  rw [desk_events]
  exact devents_any a ho.ok ho.n hg ws v hw hl hj
 rw [if_neg n6] at hf
 rw [found_cons] at hf
 by_cases n7:s=dHelp
 ·rw [if_pos n7] at hf
  cases hf
  subst n7
  rw [desk_help]
  exact dhelp_any a ho.ok ho.n hg ws v hw hl hj
 rw [if_neg n7] at hf
 rw [found_cons] at hf
 by_cases n8:s=dHistory
 ·rw [if_pos n8] at hf
  cases hf
  subst n8
  rw [desk_history]
  exact dhistory_any a ho.ok ho.n hg ws v hw hl hj
 rw [if_neg n8] at hf
 rw [found_cons] at hf
 by_cases n9:s=dMoves
 ·rw [if_pos n9] at hf
  cases hf
  subst n9
  rw [desk_moves]
  exact dmoves_any a ho.ok ho.n hg ws v hw hl hj
 rw [if_neg n9] at hf
 rw [found_cons] at hf
 by_cases n10:s=dMonths
 ·rw [if_pos n10] at hf
  cases hf
  subst n10
  rw [desk_months]
  exact dmonths_any a ho.ok ho.n hg ws v hw hl hj ho.x
 rw [if_neg n10] at hf
 rw [found_cons] at hf
 by_cases n11:s=dOpen
 ·rw [if_pos n11] at hf
  cases hf
  subst n11
  rw [desk_open]
  exact dopen_any a ho.ok ho.n hg ws v hw hl hj
 rw [if_neg n11] at hf
 rw [found_cons] at hf
 by_cases n12:s=wPost
 ·rw [if_pos n12] at hf
  cases hf
  subst n12
  rw [desk_post]
  exact dpost_any a ho.ok ho.n hg ws v hw hl hj
 rw [if_neg n12] at hf
 rw [found_cons] at hf
 by_cases n13:s=dSum
 ·rw [if_pos n13] at hf
  cases hf
  subst n13
  rw [desk_sum]
  exact dsum_any a ho.ok ho.n hg ws v hw hl hj
 rw [if_neg n13] at hf
 rw [found_cons] at hf
 by_cases n14:s=dTear
 ·rw [if_pos n14] at hf
  cases hf
  subst n14
  rw [desk_tear]
  exact dtear_any a ho.ok ho.n hg ws v hw hl hj ho.md ho.tt
 rw [if_neg n14] at hf
 rw [found_cons] at hf
 by_cases n15:s=dTrial
 ·rw [if_pos n15] at hf
  cases hf
  subst n15
  rw [desk_trial]
  exact dtrial_any a ho.ok ho.n hg ws v hw hl hj ho.x
 rw [if_neg n15] at hf
 rw [found_cons] at hf
 by_cases n16:s=dTurn
 ·rw [if_pos n16] at hf
  cases hf
  subst n16
  rw [desk_turn]
  exact dturn_any a ho.ok ho.n hg ws v hw hl hj
 rw [if_neg n16] at hf
 rw [found_cons] at hf
 by_cases n17:s=wVoid
 ·rw [if_pos n17] at hf
  cases hf
  subst n17
  rw [desk_void]
  exact dvoid_any a ho.ok ho.n hg ws v hw hl hj
 rw [if_neg n17] at hf
 cases hf
theorem found_enter (s:List UInt8) (f:Nat) (hf:foundF s deedTab=some f):∀ args w,(callFunc f args).run Tryz.prog w = .ok (.enter f args) w:=by
 unfold deedTab at hf
 rw [found_cons] at hf
 by_cases n0:s=dAt
 ·rw [if_pos n0] at hf
  cases hf
  exact enters_of Tryz.func69 (by kernel_rfl) rfl
 rw [if_neg n0] at hf
 rw [found_cons] at hf
 by_cases n1:s=dChange
 ·rw [if_pos n1] at hf
  cases hf
  exact enters_of Tryz.func70 (by kernel_rfl) rfl
 rw [if_neg n1] at hf
 rw [found_cons] at hf
 by_cases n2:s=wClose
 ·rw [if_pos n2] at hf
  cases hf
  exact enters_of Tryz.func71 (by kernel_rfl) rfl
 rw [if_neg n2] at hf
 rw [found_cons] at hf
 by_cases n3:s=dClosed
 ·rw [if_pos n3] at hf
  cases hf
  exact enters_of Tryz.func72 (by kernel_rfl) rfl
 rw [if_neg n3] at hf
 rw [found_cons] at hf
 by_cases n4:s=wCorr
 ·rw [if_pos n4] at hf
  cases hf
  exact enters_of Tryz.func73 (by kernel_rfl) rfl
 rw [if_neg n4] at hf
 rw [found_cons] at hf
 by_cases n5:s=dDay
 ·rw [if_pos n5] at hf
  cases hf
  exact enters_of Tryz.func74 (by kernel_rfl) rfl
 rw [if_neg n5] at hf
 rw [found_cons] at hf
 by_cases n6:s=dEvents
 ·rw [if_pos n6] at hf
  cases hf
  exact enters_of Tryz.func75 (by kernel_rfl) rfl
 rw [if_neg n6] at hf
 rw [found_cons] at hf
 by_cases n7:s=dHelp
 ·rw [if_pos n7] at hf
  cases hf
  exact enters_of Tryz.func76 (by kernel_rfl) rfl
 rw [if_neg n7] at hf
 rw [found_cons] at hf
 by_cases n8:s=dHistory
 ·rw [if_pos n8] at hf
  cases hf
  exact enters_of Tryz.func77 (by kernel_rfl) rfl
 rw [if_neg n8] at hf
 rw [found_cons] at hf
 by_cases n9:s=dMoves
 ·rw [if_pos n9] at hf
  cases hf
  exact enters_of Tryz.func78 (by kernel_rfl) rfl
 rw [if_neg n9] at hf
 rw [found_cons] at hf
 by_cases n10:s=dMonths
 ·rw [if_pos n10] at hf
  cases hf
  exact enters_of Tryz.func79 (by kernel_rfl) rfl
 rw [if_neg n10] at hf
 rw [found_cons] at hf
 by_cases n11:s=dOpen
 ·rw [if_pos n11] at hf
  cases hf
  exact enters_of Tryz.func80 (by kernel_rfl) rfl
 rw [if_neg n11] at hf
 rw [found_cons] at hf
 by_cases n12:s=wPost
 ·rw [if_pos n12] at hf
  cases hf
  exact enters_of Tryz.func81 (by kernel_rfl) rfl
 rw [if_neg n12] at hf
 rw [found_cons] at hf
 by_cases n13:s=dSum
 ·rw [if_pos n13] at hf
  cases hf
  exact enters_of Tryz.func82 (by kernel_rfl) rfl
 rw [if_neg n13] at hf
 rw [found_cons] at hf
 by_cases n14:s=dTear
 ·rw [if_pos n14] at hf
  cases hf
  exact enters_of Tryz.func83 (by kernel_rfl) rfl
 rw [if_neg n14] at hf
 rw [found_cons] at hf
 by_cases n15:s=dTrial
 ·rw [if_pos n15] at hf
  cases hf
  exact enters_of Tryz.func84 (by kernel_rfl) rfl
 rw [if_neg n15] at hf
 rw [found_cons] at hf
 by_cases n16:s=dTurn
 ·rw [if_pos n16] at hf
  cases hf
  exact enters_of Tryz.func85 (by kernel_rfl) rfl
 rw [if_neg n16] at hf
 rw [found_cons] at hf
 by_cases n17:s=wVoid
 ·rw [if_pos n17] at hf
  cases hf
  exact enters_of Tryz.func86 (by kernel_rfl) rfl
 rw [if_neg n17] at hf
 cases hf
theorem DkAt.note {w w1:World} {ob:Obj} {B cb ph p2:Nat} {sv cv s2 c2:Value} {h h2:Hs} (a:DkAt w B cb ph sv cv h) (a2:DkAt w1 B cb p2 s2 c2 h2) (t:DTurn (w.alloc ob) w1 cb ph sv cv p2 s2 c2) (v:Value) :
  DkAt (w1.setCell ⟨w.heap.size,0,none⟩ v) B cb p2 s2 c2 h2∧DTurn w (w1.setCell ⟨w.heap.size,0,none⟩ v) cb ph sv cv p2 s2 c2:=by
 have lt:=a.lt
 have nm:∀ k,Mine p2 s2 c2 k→k ≠ w.heap.size:=fun k hk e=>by
  rcases t.fresh k hk with x | x
  ·have:=(a.hs.mine x).2;omega
  ·rw [World.size_alloc] at x;omega
 refine ⟨⟨a2.hs.same fun k hk=>Below.heap_setCell _ _ _ _ (nm k hk),(set_other (by intro e;injection e with e1;omega)).trans a2.cc,set_frz.trans a2.cf,a2.ge,a2.ne⟩,?_⟩
 refine ⟨t.os,t.tape,t.output,?_,fun k hk hc hn=>(Below.heap_setCell _ _ _ _ (by show k ≠ w.heap.size;omega)).trans ((t.block k (by rw [World.size_alloc];omega) hc hn).trans (Below.heap_alloc _ _ _ hk)),fun k hk=>?_⟩
 ·have:=t.size
  rw [World.size_alloc] at this
  simp [World.setCell]
  omega
 ·rcases t.fresh k hk with x | x
  ·exact Or.inl x
  ·rw [World.size_alloc] at x;exact Or.inr (by omega)
theorem dassert_errno (c:Int) (w:World):(Instr.typeAssert (.iface 69 (.int .i64 c)) 20 69 true).run Tryz.prog w = .ok (.tuple #[.int .i64 c,.bool true]) w:=by kernel_rfl
set_option maxRecDepth 20000 in
set_option maxHeartbeats 1000000 in
theorem dcatch_panic (p:Addr) (x:ByteArray) (c:Int) (w:World) (hc:w.cell? p=some (.string x)) (hz:w.frozen? p=false) (hg:GlobN w) (h0 : -9223372036854775808≤c) (h1:c≤9223372036854775807) :
  CallsD Tryz.prog 89 #[.pointer (some p)] (.panicking [{ v:=.iface 69 (.int .i64 c),recovered:=false }]) w fun e u' w'=>
   e = .returned (.tuple #[])∧u' = .panicking [{ v:=.iface 69 (.int .i64 c),recovered:=true }]∧∃ w1,Below w.heap.size w w1∧w'=w1.setCell p (.string (ba (dError ++ Lib.itoa c))):=by
 have hW:=dwrong_any c w hg h0 h1
 have hlt:=World.block_lt_of_cell? _ _ hc
 have hta:=dassert_errno c
 refine callsD_of_wpS Tryz.func89 rfl fun c₀ cs hu=>?_
 apply wpS_seq
 apply wpS_region
 simp [wpOpsS,go_sem,recoverD,hu,Tryz.ntmps89,Exit.thenS]
 refine wpS_of_wp ?_
 rw [show (#[Value.pointer (some p)] ++ ((Array.replicate 15 undef).setIfInBounds 3 (Value.iface 69 (.int .i64 c))).setIfInBounds 0 (Value.iface 69 (.int .i64 c)))=#[.pointer (some p),.iface 69 (.int .i64 c),undef,undef,.iface 69 (.int .i64 c),undef,undef,undef,undef,undef,undef,undef,undef,undef,undef,undef] from rfl]
 clear hg
 go_wp2_with fail
 refine hW.mono ?_
 rintro e w1 ⟨rfl,hb⟩
 have c1:w1.cell? p=some (.string x):=(hb.cell hlt).trans hc
 have z1:w1.frozen? p=false:=(hb.frozen hlt).trans hz
 clear hW hc hz
 go_wp2_with fail
 simp [bodyPostS,results,Tryz.results89]
 exact ⟨w1,hb,rfl⟩
set_option maxRecDepth 20000 in
set_option maxHeartbeats 1000000 in
theorem dcatch_idle (p:Addr) (w:World) :
  CallsD Tryz.prog 89 #[.pointer (some p)] .returning w fun e u' w'=>e = .returned (.tuple #[])∧u' = .returning∧w'=w:=by
 refine callsD_of_wpS Tryz.func89 rfl fun c₀ cs hu=>?_
 apply wpS_seq
 apply wpS_region
 simp [wpOpsS,go_sem,recoverD,hu,Tryz.ntmps89,Exit.thenS]
 refine wpS_of_wp ?_
 rw [show (#[Value.pointer (some p)] ++ ((Array.replicate 15 undef).setIfInBounds 3 Value.nilIface).setIfInBounds 0 Value.nilIface)=#[.pointer (some p),.nilIface,undef,undef,.nilIface,undef,undef,undef,undef,undef,undef,undef,undef,undef,undef,undef] from rfl]
 go_wp2_with fail
 cases c₀
 simp_all [bodyPostS,results,Tryz.results89]
noncomputable def ansA (h:Hs):List (List UInt8)→List UInt8 × Hs
 | []=>(dOk,h)
 | s :: ws=>(if (deskA h s ws).c=0 then (deskA h s ws).told else dError ++ Lib.itoa (deskA h s ws).c,(deskA h s ws).h)
theorem line_ans (h:Hs) (l:List UInt8):lineA h l=ansA h (fieldsL l):=by
 unfold lineA ansA
 split <;> simp_all
def AnsP (w:World) (B cb ph:Nat) (sv cv:Value) (R:List UInt8 × Hs) (e:Ending) (w':World):Prop:=
 e = .returned (.string (ba R.1))∧∃ ph' sv' cv',DkAt w' B cb ph' sv' cv' R.2∧DTurn w w' cb ph sv cv ph' sv' cv'
theorem cell_of_turn {w w':World} {cb ph p2:Nat} {sv cv s2 c2:Value} (t:DTurn w w' cb ph sv cv p2 s2 c2) {k:Nat} (hk:k < w.heap.size) (hc:k ≠ cb) (hn:¬ Mine ph sv cv k) (o:Nat) :
  w'.cell? ⟨k,o,none⟩=w.cell? ⟨k,o,none⟩∧w'.frozen? ⟨k,o,none⟩=w.frozen? ⟨k,o,none⟩:=
 ⟨World.cell?_of_block (a:=⟨k,o,none⟩) (t.block k hk hc hn),World.frozen?_of_block (a:=⟨k,o,none⟩) (t.block k hk hc hn)⟩
theorem deed_c (b:Bk) (cs:List Cl) (word rest:List UInt8):0≤(deedD b cs word rest).c∧(deedD b cs word rest).c≤12:=by
 unfold deedD postD corrD voidD closeD
 repeat' split
 all_goals (simp [ddE])
theorem do_c (h:Hs) (l:List UInt8):0≤(doH h l).c∧(doH h l).c≤12:=by
 unfold doH
 split
 ·exact ⟨(by decide:(0:Int)≤3),(by decide:(3:Int)≤12)⟩
 split
 ·exact ⟨(by decide:(0:Int)≤0),(by decide:(0:Int)≤12)⟩
 ·exact deed_c _ _ _ _
def okC (c:Int):Prop:=0≤c∧c≤12
theorem ok0:okC 0:=⟨by decide,by decide⟩
theorem ok2:okC 2:=⟨by decide,by decide⟩
theorem ok3:okC 3:=⟨by decide,by decide⟩
theorem c_at (h:Hs) (ws:List (List UInt8)):okC (atA h ws).c:=by
 unfold atA
 repeat' split
 all_goals first | exact ok0 | exact ok3 | exact ok2
theorem c_change (h:Hs) (ws:List (List UInt8)):okC (changeA h ws).c:=by
 unfold changeA
 repeat' split
 all_goals first | exact ok0 | exact ok3 | exact ok2
theorem c_closed (h:Hs) (ws:List (List UInt8)):okC (closedA h ws).c:=by
 unfold closedA
 repeat' split
 all_goals first | exact ok0 | exact ok3 | exact ok2
theorem c_day (h:Hs) (ws:List (List UInt8)):okC (dayA h ws).c:=by
 unfold dayA
 repeat' split
 all_goals first | exact ok0 | exact ok3 | exact ok2
theorem c_events (h:Hs) (ws:List (List UInt8)):okC (eventsA h ws).c:=by
 unfold eventsA
 repeat' split
 all_goals first | exact ok0 | exact ok3 | exact ok2
theorem c_help (h:Hs) (ws:List (List UInt8)):okC (helpA h ws).c:=by
 unfold helpA
 repeat' split
 all_goals first | exact ok0 | exact ok3 | exact ok2
theorem c_history (h:Hs) (ws:List (List UInt8)):okC (historyA h ws).c:=by
 unfold historyA
 repeat' split
 all_goals first | exact ok0 | exact ok3 | exact ok2
theorem c_moves (h:Hs) (ws:List (List UInt8)):okC (movesA h ws).c:=by
 unfold movesA
 repeat' split
 all_goals first | exact ok0 | exact ok3 | exact ok2
theorem c_months (h:Hs) (ws:List (List UInt8)):okC (monthsA h ws).c:=by
 unfold monthsA
 repeat' split
 all_goals first | exact ok0 | exact ok3 | exact ok2
theorem c_open (h:Hs) (ws:List (List UInt8)):okC (openA h ws).c:=by
 unfold openA
 repeat' split
 all_goals first | exact ok0 | exact ok3 | exact ok2
theorem c_sum (h:Hs) (ws:List (List UInt8)):okC (sumA h ws).c:=ok0
theorem c_tear (h:Hs) (ws:List (List UInt8)):okC (tearA h ws).c:=by
 unfold tearA
 repeat' split
 all_goals first | exact ok0 | exact ok3 | exact ok2
theorem c_trial (h:Hs) (ws:List (List UInt8)):okC (trialA h ws).c:=by
 unfold trialA
 repeat' split
 all_goals first | exact ok0 | exact ok3 | exact ok2
theorem c_turn (h:Hs) (ws:List (List UInt8)):okC (turnA h ws).c:=by
 unfold turnA
 repeat' split
 all_goals first | exact ok0 | exact ok3 | exact ok2
theorem desk_c0 (h:Hs) (s:List UInt8) (ws:List (List UInt8)):okC (deskA h s ws).c:=by
 have hd:okC (doA h s ws).c:=do_c h (s ++ 32 :: joinB ws)
 unfold deskA
 by_cases n0:s=dAt
 ·rw [if_pos n0];exact c_at h ws
 rw [if_neg n0]
 by_cases n1:s=dChange
 ·rw [if_pos n1];exact c_change h ws
 rw [if_neg n1]
 by_cases n2:s=wClose
 ·rw [if_pos n2];exact hd
 rw [if_neg n2]
 by_cases n3:s=dClosed
 ·rw [if_pos n3];exact c_closed h ws
 rw [if_neg n3]
 by_cases n4:s=wCorr
 ·rw [if_pos n4];exact hd
 rw [if_neg n4]
 by_cases n5:s=dDay
 ·rw [if_pos n5];exact c_day h ws
 rw [if_neg n5]
 by_cases n6:s=dEvents
 ·rw [if_pos n6];exact c_events h ws
 rw [if_neg n6]
 by_cases n7:s=dHelp
 ·rw [if_pos n7];exact c_help h ws
 rw [if_neg n7]
 by_cases n8:s=dHistory
 ·rw [if_pos n8];exact c_history h ws
 rw [if_neg n8]
 by_cases n9:s=dMoves
 ·rw [if_pos n9];exact c_moves h ws
 rw [if_neg n9]
 by_cases n10:s=dMonths
 ·rw [if_pos n10];exact c_months h ws
 rw [if_neg n10]
 by_cases n11:s=dOpen
 ·rw [if_pos n11];exact c_open h ws
 rw [if_neg n11]
 by_cases n12:s=wPost
 ·rw [if_pos n12];exact hd
 rw [if_neg n12]
 by_cases n13:s=dSum
 ·rw [if_pos n13];exact c_sum h ws
 rw [if_neg n13]
 by_cases n14:s=dTear
 ·rw [if_pos n14];exact c_tear h ws
 rw [if_neg n14]
 by_cases n15:s=dTrial
 ·rw [if_pos n15];exact c_trial h ws
 rw [if_neg n15]
 by_cases n16:s=dTurn
 ·rw [if_pos n16];exact c_turn h ws
 rw [if_neg n16]
 by_cases n17:s=wVoid
 ·rw [if_pos n17];exact hd
 rw [if_neg n17]
 exact ok3
theorem desk_c (h:Hs) (s:List UInt8) (ws:List (List UInt8)):0≤(deskA h s ws).c∧(deskA h s ws).c≤12:=desk_c0 h s ws
set_option maxRecDepth 20000 in
set_option maxHeartbeats 4000000 in
theorem danswer_nil {w:World} {B cb ph:Nat} {sv cv:Value} {h:Hs} (a:DkAt w B cb ph sv cv h) (mv:Value) (ad:Option Addr) (cap:Nat) :
  Calls Tryz.prog 40 #[mv,.slice ad 0 cap] w (AnsP w B cb ph sv cv (ansA h [])):=by
 have hb:Below w.heap.size w (w.alloc (.cells #[.string ⟨#[111,107]⟩] 9)):=(Below.refl w.heap.size w).alloc (Nat.le_refl _) _
 have HP:Hid (AnsP w B cb ph sv cv (ansA h []) (.returned (.string ⟨#[111,107]⟩)) (w.alloc (.cells #[.string ⟨#[111,107]⟩] 9))):=⟨rfl,ph,sv,cv,a.below hb,DTurn.of_below hb⟩
 clear a hb
 go_enter_defers Tryz.func40,Tryz.ntmps40
 go_wp2
 simp [bodyPostD,Leaves,results,Tryz.results40,go_sem]
 exact HP.out
set_option maxRecDepth 20000 in
set_option maxHeartbeats 8000000 in
theorem danswer_some {w:World} {B cb ph mb:Nat} {sv cv:Value} {h:Hs} (a:DkAt w B cb ph sv cv h) (ho:DkOk h) (hg:GroundD B w) (hd:DeedsAt w cb mb) (s:List UInt8) (r:List (List UInt8)) (v:Value) (hw:WsAt w v (s :: r)) (hl:(s :: r).length≤100000) (hj:(joinB (s :: r)).length≤100000) :
  Calls Tryz.prog 40 #[.map (some mb),v] w (AnsP w B cb ph sv cv (ansA h (s :: r))):=by
 obtain ⟨ad,cap,rfl,hcap,hx | ⟨bk,o,rfl,lt,c⟩⟩:=hw
 ·cases hx
 obtain ⟨W0,hW0⟩:∃ W,W=w.alloc (.cells #[.string ⟨#[]⟩] 9):=⟨_,rfl⟩
 have hb0:Below w.heap.size w W0:=by rw [hW0];exact (Below.refl _ _).alloc (Nat.le_refl _) _
 have hsz:W0.heap.size=w.heap.size + 1:=by rw [hW0,World.size_alloc]
 have c0:W0.cell? ⟨bk,o,none⟩=some (.string (ba s)):=(hb0.cell (p:=⟨bk,o,none⟩) lt).trans (c 0 s rfl)
 have hd0:W0.heap[mb]?=some (.map (entsFrom cb 0 deedTab).toArray deedTab.length):=(hb0.block mb (Array.getElem?_eq_some_iff.1 hd).1).trans hd
 have hL:=look_deed cb deedTab _ s hd0
 have p0:W0.cell? ⟨w.heap.size,0,none⟩=some (.string ⟨#[]⟩):=by rw [hW0];simp
 have z0:W0.frozen? ⟨w.heap.size,0,none⟩=false:=by rw [hW0];simp
 have hmf:∀ (fn:Fn) (first cap:Array Value) (w:World),(Instr.makeFunc fn first cap).run Tryz.prog w = .ok (.func fn first cap) w:=fun _ _ _ _=>rfl
 have hl2:r.length≤100000:=by rw [List.length_cons] at hl;omega
 have hj2:(joinB r).length≤100000:=by
  cases r with
  | nil=>exact Nat.zero_le _
  | cons y r=>rw [joinB,List.length_append,List.length_cons] at hj;omega
 have hw1:cap=1→WsAt W0 (.slice (some ⟨bk,o,none⟩) r.length 0) r:=fun hc1=>by
  have:r.length=0:=by rw [List.length_cons] at hcap;omega
  exact ⟨some ⟨bk,o,none⟩,0,rfl,by omega,Or.inl (List.length_eq_zero_iff.1 this)⟩
 have hw0:WsAt W0 (.slice (some ⟨bk,o + 1,none⟩) r.length (cap - 1)) r:=by
  refine ⟨some ⟨bk,o + 1,none⟩,cap - 1,rfl,by rw [List.length_cons] at hcap;omega,Or.inr ⟨bk,o + 1,rfl,Nat.lt_of_lt_of_le lt hb0.size,fun j x hj=>?_⟩⟩
  have h1:=c (j + 1) x hj
  rw [show o + 1 + j=o + (j + 1) by omega]
  exact (hb0.cell (p:=⟨bk,o + (j + 1),none⟩) lt).trans h1
 have a0:=a.below hb0
 have hg0:=hg.below hb0
 have hne:w.heap.size ≠ cb:=by have:=a.lt;omega
 have hnm:¬ Mine ph sv cv w.heap.size:=fun hm=>by have:=(a.hs.mine hm).2;omega
 have HNOTE:Hid (∀ (w1 w2:World) (p2:Nat) (s2 c2:Value) (h2:Hs) (t:List UInt8),DkAt w1 B cb p2 s2 c2 h2→DTurn W0 w1 cb ph sv cv p2 s2 c2→Below w1.heap.size w1 w2→ansA h (s :: r)=(t,h2)→AnsP w B cb ph sv cv (ansA h (s :: r)) (.returned (.string (ba t))) (w2.setCell ⟨w.heap.size,0,none⟩ (.string (ba t)))):=by
  intro w1 w2 p2 s2 c2 h2 t d1 t1 hb2 e
  rw [e]
  have t2:=t1.trans (DTurn.of_below hb2)
  rw [hW0] at t2
  obtain ⟨x1,x2⟩:=a.note (d1.below hb2) t2 (.string (ba t))
  exact ⟨rfl,p2,s2,c2,x1,x2⟩
 have HA:=hidE a
 have HW0:=hidE hW0
 have HA0:=hidE a0
 have HG0:=hidE hg0
 have HSZ:=hidE hsz
 rcases hf:foundF s deedTab with _ | f
 ·rw [hf] at hL
  simp only at hL
  have HE:Hid (ansA h (s :: r)=(dError ++ Lib.itoa 3,h)):=by
   show _=_
   show ((if (deskA h s r).c=0 then (deskA h s r).told else dError ++ Lib.itoa (deskA h s r).c),(deskA h s r).h)=_
   rw [desk_none h s r hf]
   rfl
  have hCP:=dcatch_panic ⟨w.heap.size,0,none⟩ ⟨#[]⟩ 3 W0 p0 z0 hg0.glob.h.ev.num (by decide) (by decide)
  clear a a0 hg hg0 hd hd0 ho hW0 hw0 hw1 hf c hb0 hl hj hl2 hj2 hsz
  have hr0:(((r.length:Int) + 1) == 0)=false:=by
   rw [beq_eq_false_iff_ne]
   omega
  go_enter_defers Tryz.func40,Tryz.ntmps40
  go_upto_region 3 with fail
  rw [← HW0.out]
  go_wp2_with fail
  refine leaves_cons (f:=89) (args:=#[.pointer (some ⟨w.heap.size,0,none⟩)]) (by simp) (by simp [go_sem]) ?_
  refine hCP.mono ?_
  rintro e u' w'' ⟨rfl,rfl,w1,hb1,rfl⟩
  have hcr:(w1.setCell ⟨w.heap.size,0,none⟩ (.string (ba (dError ++ Lib.itoa 3)))).cell? ⟨w.heap.size,0,none⟩=some (.string (ba (dError ++ Lib.itoa 3))):=set_same ((hb1.cell (p:=⟨w.heap.size,0,none⟩) (World.block_lt_of_cell? _ _ p0)).trans p0)
  have HF:=hidE (HNOTE.out W0 w1 ph sv cv h _ HA0.out (DTurn.of_below (Below.refl _ _)) hb1 HE.out)
  clear hCP hmf hL c0 p0 z0 HNOTE HE
  obtain ⟨tx,htx⟩:∃ t,t=ba (dError ++ Lib.itoa 3):=⟨_,rfl⟩
  rw [← htx] at hcr HF ⊢
  clear htx
  obtain ⟨W2,hW2⟩:∃ W,W=w1.setCell ⟨w.heap.size,0,none⟩ (.string tx):=⟨_,rfl⟩
  rw [← hW2] at hcr HF ⊢
  clear hW2
  simp [Leaves,settle,results,Tryz.results40,go_sem,hcr]
  exact HF.out
 ·rw [hf] at hL
  unfold deedV at hL
  simp only at hL
  have hent:=found_enter s f hf
  have hD:∀ v',WsAt W0 v' r→Calls Tryz.prog f #[.pointer (some ⟨cb,0,none⟩),v'] W0 (DkP W0 B cb ph sv cv (deskA h s r)):=fun v' hv'=>dkdeed_any a0 ho hg0 s f hf r v' hv' hl2 hj2
  have HW1:=hidE hw1
  have HWW:=hidE hw0
  have HE:Hid (ansA h (s :: r)=((if (deskA h s r).c=0 then (deskA h s r).told else dError ++ Lib.itoa (deskA h s r).c),(deskA h s r).h)):=rfl
  have hcb:=desk_c h s r
  obtain ⟨R,hR⟩:∃ R,R=deskA h s r:=⟨_,rfl⟩
  rw [← hR] at hD HE hcb
  have hr0:(((r.length:Int) + 1) == 0)=false:=by
   rw [beq_eq_false_iff_ne]
   omega
  have hcp:r.length + 1≤cap:=hcap
  have HNE:=hidE hne
  have HNM:=hidE hnm
  have P0:=hidE p0
  have Z0:=hidE z0
  clear a a0 hg hg0 hd hd0 ho hW0 hw0 hw1 hf c hb0 hl hj hl2 hj2 hsz hR hne hnm p0 z0 hcap
  go_enter_defers Tryz.func40,Tryz.ntmps40
  go_upto_region 3 with fail
  rw [← HW0.out]
  go_wp2_with fail
  ·refine (hD _ (HW1.out (by assumption))).mono ?_
   rintro e w1 ⟨he,p2,s2,c2,d1,t1⟩
   have hk0:w.heap.size < W0.heap.size:=by rw [HSZ.out];omega
   obtain ⟨q1,q2⟩:=cell_of_turn t1 hk0 HNE.out HNM.out 0
   have p1:w1.cell? ⟨w.heap.size,0,none⟩=some (.string ⟨#[]⟩):=q1.trans P0.out
   have z1:w1.frozen? ⟨w.heap.size,0,none⟩=false:=q2.trans Z0.out
   have HG1:Hid (GroundD B w1):=HG0.out.turn HA0.out t1
   have D1:=hidE d1
   have T1:=hidE t1
   have HK:=hidE hk0
   clear hD d1 t1 q1 q2 hL c0 hk0
   by_cases hc:R.c=0
   ·obtain ⟨tx,htx⟩:∃ t,t=R.told:=⟨_,rfl⟩
    have HF:=hidE (HNOTE.out w1 w1 p2 s2 c2 R.h tx D1.out T1.out (Below.refl _ _) (by rw [HE.out,if_pos hc,htx]))
    have he2:e = .returned (.string (ba tx)):=by rw [he];unfold endA;rw [if_pos hc,htx]
    subst he2
    obtain ⟨tb,htb⟩:∃ t,t=ba tx:=⟨_,rfl⟩
    rw [← htb] at HF ⊢
    have hcr:(w1.setCell ⟨w.heap.size,0,none⟩ (.string tb)).cell? ⟨w.heap.size,0,none⟩=some (.string tb):=set_same p1
    have hCI:=dcatch_idle ⟨w.heap.size,0,none⟩ (w1.setCell ⟨w.heap.size,0,none⟩ (.string tb))
    have HCR:=hidE hcr
    clear he htx htb hc HNOTE HE hcr
    go_wp2_with fail
    refine leaves_cons (f:=89) (args:=#[.pointer (some ⟨w.heap.size,0,none⟩)]) (by simp) (by simp [go_sem]) ?_
    refine hCI.mono ?_
    rintro e u' w'' ⟨rfl,rfl,rfl⟩
    have hcr:=HCR.out
    clear hCI HCR p1 z1
    obtain ⟨W2,hW2⟩:∃ W,W=w1.setCell ⟨w.heap.size,0,none⟩ (.string tb):=⟨_,rfl⟩
    rw [← hW2] at hcr HF ⊢
    clear hW2
    simp [Leaves,settle,results,Tryz.results40,go_sem,hcr]
    exact HF.out
   ·have he2:e = .panicked [{ v:=.iface 69 (.int .i64 R.c),recovered:=false }]:=by rw [he];unfold endA;rw [if_neg hc]
    subst he2
    have hCP:=dcatch_panic ⟨w.heap.size,0,none⟩ ⟨#[]⟩ R.c w1 p1 z1 HG1.out.glob.h.ev.num (by omega) (by omega)
    have HC:=hidE hc
    clear he hc hcb
    go_wp2_with fail
    refine leaves_cons (f:=89) (args:=#[.pointer (some ⟨w.heap.size,0,none⟩)]) (by simp) (by simp [go_sem]) ?_
    refine hCP.mono ?_
    rintro e u' w'' ⟨rfl,rfl,w2,hb2,rfl⟩
    have hcr:(w2.setCell ⟨w.heap.size,0,none⟩ (.string (ba (dError ++ Lib.itoa R.c)))).cell? ⟨w.heap.size,0,none⟩=some (.string (ba (dError ++ Lib.itoa R.c))):=set_same ((hb2.cell (p:=⟨w.heap.size,0,none⟩) (World.block_lt_of_cell? _ _ p1)).trans p1)
    have HF:=hidE (HNOTE.out w1 w2 p2 s2 c2 R.h _ D1.out T1.out hb2 (by rw [HE.out,if_neg HC.out]))
    clear hCP hmf p1 z1 HNOTE HE
    obtain ⟨tx,htx⟩:∃ t,t=ba (dError ++ Lib.itoa R.c):=⟨_,rfl⟩
    rw [← htx] at hcr HF ⊢
    clear htx
    obtain ⟨W2,hW2⟩:∃ W,W=w2.setCell ⟨w.heap.size,0,none⟩ (.string tx):=⟨_,rfl⟩
    rw [← hW2] at hcr HF ⊢
    clear hW2
    simp [Leaves,settle,results,Tryz.results40,go_sem,hcr]
    exact HF.out
  ·refine (hD _ HWW.out).mono ?_
   rintro e w1 ⟨he,p2,s2,c2,d1,t1⟩
   have hk0:w.heap.size < W0.heap.size:=by rw [HSZ.out];omega
   obtain ⟨q1,q2⟩:=cell_of_turn t1 hk0 HNE.out HNM.out 0
   have p1:w1.cell? ⟨w.heap.size,0,none⟩=some (.string ⟨#[]⟩):=q1.trans P0.out
   have z1:w1.frozen? ⟨w.heap.size,0,none⟩=false:=q2.trans Z0.out
   have HG1:Hid (GroundD B w1):=HG0.out.turn HA0.out t1
   have D1:=hidE d1
   have T1:=hidE t1
   have HK:=hidE hk0
   clear hD d1 t1 q1 q2 hL c0 hk0
   by_cases hc:R.c=0
   ·obtain ⟨tx,htx⟩:∃ t,t=R.told:=⟨_,rfl⟩
    have HF:=hidE (HNOTE.out w1 w1 p2 s2 c2 R.h tx D1.out T1.out (Below.refl _ _) (by rw [HE.out,if_pos hc,htx]))
    have he2:e = .returned (.string (ba tx)):=by rw [he];unfold endA;rw [if_pos hc,htx]
    subst he2
    obtain ⟨tb,htb⟩:∃ t,t=ba tx:=⟨_,rfl⟩
    rw [← htb] at HF ⊢
    have hcr:(w1.setCell ⟨w.heap.size,0,none⟩ (.string tb)).cell? ⟨w.heap.size,0,none⟩=some (.string tb):=set_same p1
    have hCI:=dcatch_idle ⟨w.heap.size,0,none⟩ (w1.setCell ⟨w.heap.size,0,none⟩ (.string tb))
    have HCR:=hidE hcr
    clear he htx htb hc HNOTE HE hcr
    go_wp2_with fail
    refine leaves_cons (f:=89) (args:=#[.pointer (some ⟨w.heap.size,0,none⟩)]) (by simp) (by simp [go_sem]) ?_
    refine hCI.mono ?_
    rintro e u' w'' ⟨rfl,rfl,rfl⟩
    have hcr:=HCR.out
    clear hCI HCR p1 z1
    obtain ⟨W2,hW2⟩:∃ W,W=w1.setCell ⟨w.heap.size,0,none⟩ (.string tb):=⟨_,rfl⟩
    rw [← hW2] at hcr HF ⊢
    clear hW2
    simp [Leaves,settle,results,Tryz.results40,go_sem,hcr]
    exact HF.out
   ·have he2:e = .panicked [{ v:=.iface 69 (.int .i64 R.c),recovered:=false }]:=by rw [he];unfold endA;rw [if_neg hc]
    subst he2
    have hCP:=dcatch_panic ⟨w.heap.size,0,none⟩ ⟨#[]⟩ R.c w1 p1 z1 HG1.out.glob.h.ev.num (by omega) (by omega)
    have HC:=hidE hc
    clear he hc hcb
    go_wp2_with fail
    refine leaves_cons (f:=89) (args:=#[.pointer (some ⟨w.heap.size,0,none⟩)]) (by simp) (by simp [go_sem]) ?_
    refine hCP.mono ?_
    rintro e u' w'' ⟨rfl,rfl,w2,hb2,rfl⟩
    have hcr:(w2.setCell ⟨w.heap.size,0,none⟩ (.string (ba (dError ++ Lib.itoa R.c)))).cell? ⟨w.heap.size,0,none⟩=some (.string (ba (dError ++ Lib.itoa R.c))):=set_same ((hb2.cell (p:=⟨w.heap.size,0,none⟩) (World.block_lt_of_cell? _ _ p1)).trans p1)
    have HF:=hidE (HNOTE.out w1 w2 p2 s2 c2 R.h _ D1.out T1.out hb2 (by rw [HE.out,if_neg HC.out]))
    clear hCP hmf p1 z1 HNOTE HE
    obtain ⟨tx,htx⟩:∃ t,t=ba (dError ++ Lib.itoa R.c):=⟨_,rfl⟩
    rw [← htx] at hcr HF ⊢
    clear htx
    obtain ⟨W2,hW2⟩:∃ W,W=w2.setCell ⟨w.heap.size,0,none⟩ (.string tx):=⟨_,rfl⟩
    rw [← hW2] at hcr HF ⊢
    clear hW2
    simp [Leaves,settle,results,Tryz.results40,go_sem,hcr]
    exact HF.out
end Go.Proofs.YtbleojodidbhiaaGreatDoor
