/-  -/
import Derived.Test.YtbleojodidbhiaaGreatDoorBnPf
import Derived.Test.YtbleojodidbhiaaGreatDoorBnM
import Derived.Test.YtbleojodidbhiaaGreatDoorBnDayW
namespace Go.Proofs.YtbleojodidbhiaaGreatDoor
open Go.RowKit Go.Maps
theorem flat_snoc_set {a:List Mon} {m:Mon} (f:Fig):(((((((a ++ [m]).flatMap monC).set (a.length * 6 + 1) (.int .i64 f.inn)).set (a.length * 6 + 2) (.int .i64 f.out)).set (a.length * 6 + 3) (.int .i64 f.loss)).set (a.length * 6 + 4) (.int .i64 f.gain)).set (a.length * 6 + 5) (.int .i64 f.late))=(a ++ [(⟨m.n,f⟩:Mon)]).flatMap monC:=by
 have hl:(a.flatMap monC).length=a.length * 6:=flat_len monC 6 monC_len a
 simp only [List.flatMap_append,List.flatMap_cons,List.flatMap_nil,List.append_nil]
 rw [List.set_append_right _ _ (by omega),List.set_append_right _ _ (by omega),List.set_append_right _ _ (by omega),List.set_append_right _ _ (by omega),List.set_append_right _ _ (by omega)]
 rw [hl]
 simp only [Nat.add_sub_cancel_left]
 rfl
theorem own_low {w:World} {B b:Nat} {T:TypeId} {m n:Nat} {v:Value} {xs:List Value} (h:w.ownsRow b T m v n xs) (hB:B≤b):w.ownsRow B T m v n xs:=own_below h (Below.refl _ _) hB
theorem own_fig {w:World} {B:Nat} {T:TypeId} {g n cap:Nat} {a:List Mon} {m:Mon} (h:w.ownsRow B T 6 (.slice (some ⟨g,0,none⟩) n cap) n ((a ++ [m]).flatMap monC)) (f:Fig) :
  (((((w.setCell ⟨g,a.length * 6 + 1,none⟩ (.int .i64 f.inn)).setCell ⟨g,a.length * 6 + 2,none⟩ (.int .i64 f.out)).setCell ⟨g,a.length * 6 + 3,none⟩ (.int .i64 f.loss)).setCell ⟨g,a.length * 6 + 4,none⟩ (.int .i64 f.gain)).setCell ⟨g,a.length * 6 + 5,none⟩ (.int .i64 f.late)).ownsRow B T 6 (.slice (some ⟨g,0,none⟩) n cap) n ((a ++ [(⟨m.n,f⟩:Mon)]).flatMap monC):=by
 have:=own_set (own_set (own_set (own_set (own_set h (a.length * 6 + 1) (.int .i64 f.inn)) (a.length * 6 + 2) (.int .i64 f.out)) (a.length * 6 + 3) (.int .i64 f.loss)) (a.length * 6 + 4) (.int .i64 f.gain)) (a.length * 6 + 5) (.int .i64 f.late)
 rw [flat_snoc_set] at this
 exact this
theorem below_fig {n g o:Nat} {w W:World} (h:Below n w W) (hg:n≤g) (a b c d e:Value):Below n w (((((W.setCell ⟨g,o + 1,none⟩ a).setCell ⟨g,o + 2,none⟩ b).setCell ⟨g,o + 3,none⟩ c).setCell ⟨g,o + 4,none⟩ d).setCell ⟨g,o + 5,none⟩ e):=
 ((((h.setCell hg a).setCell hg b).setCell hg c).setCell hg d).setCell hg e
theorem monC_one (m:Mon):∀ u ∈ monC m,u.oneCell'=true:=by
 intro u hu
 simp only [monC,figC,List.mem_cons,List.not_mem_nil,or_false] at hu
 rcases hu with rfl | rfl | rfl | rfl | rfl | rfl <;> rfl
structure LinAt (w:World) (b:Nat) (y:Lin):Prop where
 c0:w.cell? ⟨b,0,none⟩=some (.int .i64 y.id)
 c1:w.cell? ⟨b,1,none⟩=some (.int .i64 y.val)
 c2:w.cell? ⟨b,2,none⟩=some (.int .i64 y.short)
 c3:w.cell? ⟨b,3,none⟩=some (.int .i64 y.late)
 c4:w.cell? ⟨b,4,none⟩=some (.bool y.gain)
theorem LinAt.below {w w':World} {b:Nat} {y:Lin} (h:LinAt w b y) (hb:Below w.heap.size w w'):LinAt w' b y:=
 ⟨below_cell hb h.c0,below_cell hb h.c1,below_cell hb h.c2,below_cell hb h.c3,below_cell hb h.c4⟩
theorem ev_grown {w w':World} {b:Nat} {e:Ev} {o:Option Nat} (h:EvAt w b e) (hg:w.grownBy w' o) (hne:o ≠ some b):EvAt w' b e:=by
 have hb:=hg.block b (World.block_lt_of_cell? _ _ h.c0) (fun x=>hne x.symm)
 exact ⟨(World.cell?_of_block (a:=⟨b,0,none⟩) hb).trans h.c0,(World.cell?_of_block (a:=⟨b,1,none⟩) hb).trans h.c1,(World.cell?_of_block (a:=⟨b,2,none⟩) hb).trans h.c2,(World.cell?_of_block (a:=⟨b,3,none⟩) hb).trans h.c3,(World.cell?_of_block (a:=⟨b,4,none⟩) hb).trans h.c4,(World.cell?_of_block (a:=⟨b,5,none⟩) hb).trans h.c5,(World.cell?_of_block (a:=⟨b,6,none⟩) hb).trans h.c6⟩
theorem lin_grown {w w':World} {b:Nat} {y:Lin} {o:Option Nat} (h:LinAt w b y) (hg:w.grownBy w' o) (hne:o ≠ some b):LinAt w' b y:=by
 have hb:=hg.block b (World.block_lt_of_cell? _ _ h.c0) (fun x=>hne x.symm)
 exact ⟨(World.cell?_of_block (a:=⟨b,0,none⟩) hb).trans h.c0,(World.cell?_of_block (a:=⟨b,1,none⟩) hb).trans h.c1,(World.cell?_of_block (a:=⟨b,2,none⟩) hb).trans h.c2,(World.cell?_of_block (a:=⟨b,3,none⟩) hb).trans h.c3,(World.cell?_of_block (a:=⟨b,4,none⟩) hb).trans h.c4⟩
theorem field_lines (ad:Option Addr) (n c:Nat) (b:Value) (w:World):(Instr.field 223 (.agg #[.slice ad n c,b]) 0).run Tryz.prog w = .ok (.slice ad n c) w:=by kernel_rfl
def monZ:Value:=.agg #[.int .i64 0,.int .i64 0,.int .i64 0,.int .i64 0,.int .i64 0,.int .i64 0]
theorem mon_info:(Tryz.prog.info? 287).map (fun i=>(i.zero,i.size,i.bytes))=some (some monZ,6,48):=by kernel_rfl
set_option maxRecDepth 20000 in
set_option maxHeartbeats 8000000 in
theorem months_any (l:List Ev) (v:Value) (w:World) (h:EvsAt w v l) (hw:∀ e ∈ l,EvW e) (hl:l.length≤10000) (hn:(l.map (·.id)).Nodup) (ht:LenTab w) :
  Calls Tryz.prog 239 #[v] w fun r w'=>∃ v',r = .returned v'∧w'.ownsRow w.heap.size 287 6 v' (mons l).length ((mons l).flatMap monC)∧Below w.heap.size w w':=by
 obtain ⟨i0,hi,hz0,hz1,hz2⟩:=info_parts mon_info
 have HC:Hid (EvsAt w v l):=h
 obtain ⟨ao,cap,rfl,hc0⟩:=h.toC
 have hfd:=finder_any l ao cap w hc0 hw hl
 have HW:Hid (∀ e ∈ l,EvW e):=hw
 have HT:Hid (LenTab w):=ht
 have hml:=mons_len l
 have hol:=ordd_len l
 have HFN:Hid (∀ e ∈ ordd l,fnd l e.id=e∧EvW e∧0≤e.day∧e.day≤99999):=fun e he=>by
  have hm:e ∈ l.filter rtB:=(stl_perm (l.filter rtB)).mem_iff.1 he
  rw [List.mem_filter] at hm
  have hr:=ordd_rt l e he
  exact ⟨fnd_is hn hm.1 hm.2,hw e hm.1,hr.2.1.1,hr.2.1.2⟩
 clear h hw ht hn hc0
 go_enter Tryz.func239,Tryz.ntmps239
 go_wp2_with fail
 refine hfd.mono ?_
 rintro r w1 ⟨bx,mb,nm,D,rfl,hF1,hb1⟩
 have hrun:=run_any l (.slice ao l.length cap) w1 (HC.out.below hb1) HW.out hl
 clear hfd
 go_wp2_with fail
 refine hrun.mono ?_
 rintro r w2 ⟨rv,rfl,hres,hb2⟩
 clear hrun
 obtain ⟨u,mb2,nn,D2,V2,rfl,_,_,g3⟩:=hres
 obtain ⟨fs,hfs⟩:∃ fs,fs=ordd l:=⟨_,rfl⟩
 obtain ⟨ls,hls⟩:∃ ls,ls=goL stk00 fs:=⟨_,rfl⟩
 have hll:ls.length=fs.length:=by rw [hls,goL_len]
 have hown:w2.ownsRow w1.heap.size 180 5 u ls.length (ls.flatMap linC):=by rw [hls,hfs];exact g3.own
 clear g3
 obtain ⟨ad,capu,hu⟩:=own_lenN hown
 subst hu
 have hF2:=hF1.below hb2
 have hB2:Below w.heap.size w w2:=hb1.trans (hb2.mono hb1.size)
 have HF2:Hid (FindAt w2 bx mb nm D l):=hF2
 have HT2:Hid (LenTab w2):=(HT.out.below hb1).below hb2
 have HID:Hid (∀ k (hk:k < ls.length) (hk':k < fs.length),ls[k].id=fs[k].id):=fun k hk hk'=>by
  subst hls
  exact goL_id _ _ _ _ _
 have HMS:Hid (mons l=monsA [] (fs.zip ls)):=by show _=_;rw [hls,hfs];rfl
 have HOWN:Hid (w2.ownsRow w1.heap.size 180 5 (.slice ad ls.length capu) ls.length (ls.flatMap linC)):=hown
 rw [← hfs] at HFN hol
 have hfl:=field_lines ad ls.length capu (.map (some mb2)) w2
 have HLL:Hid (ls.length=fs.length):=hll
 have hll1:ls.length≤fs.length:=Nat.le_of_eq hll
 have hll2:fs.length≤ls.length:=Nat.le_of_eq hll.symm
 clear hF1 hF2 hb1 hb2 hfs hls hown hll
 go_wp2
 clear hfl
 go_loopw [4,17] (fun mv i wr=>∃ k:Nat,k≤ls.length∧i = .int .i64 k∧Hid (wr.ownsRow w2.heap.size 287 6 mv (monsA [] ((fs.zip ls).take k)).length ((monsA [] ((fs.zip ls).take k)).flatMap monC))∧Hid (Below w2.heap.size w2 wr)) (fun _ i _=>ls.length - (intOf i).toNat)
 case atStart=>exact ⟨0,Nat.zero_le _,rfl,World.ownsRow_nil _ _ _ _,Below.refl _ _⟩
 case round=>
  obtain ⟨k,hk,rfl,HO,HB⟩:=hrel
  by_cases hlt:k < ls.length
  ·rcases own_form HOWN.out with ⟨_,a2,_⟩ | ⟨g,cp,e1,hg1,hg2,_⟩
   ·omega
   ·simp only [Value.slice.injEq] at e1
    obtain ⟨rfl,_,rfl⟩:=e1
    obtain ⟨y,hy⟩:∃ y,y=ls[k]:=⟨_,rfl⟩
    obtain ⟨x,hx⟩:∃ x,x=fs[k]'(by omega):=⟨_,rfl⟩
    have hyx:y.id=x.id:=by rw [hy,hx];exact HID.out k hlt (by omega)
    have hxf:=HFN.out x (by rw [hx];exact List.getElem_mem _)
    have HTK:Hid (monsA [] ((fs.zip ls).take (k + 1))=addM (monsA [] ((fs.zip ls).take k)) (dK x.day:Int) (figOf x.kind y)):=by
     show _=_
     rw [List.take_succ_eq_append_getElem (by rw [List.length_zip];omega),monsA_append,List.getElem_zip,hx,hy]
     rfl
    have hcw:∀ j,j < 5→wr.cell? ⟨g,k * 5 + j,none⟩=(linC y)[j]?:=fun j hj=>by
     rw [HB.out.cell (p:=⟨g,k * 5 + j,none⟩) hg2,(own_cell linC_len HOWN.out k j hlt hj).1,hy]
    obtain ⟨y0,y1,y2,y3,y4⟩:=y
    have q0:=hcw 0 (by omega)
    have q1:=hcw 1 (by omega)
    have q2:=hcw 2 (by omega)
    have q3:=hcw 3 (by omega)
    have q4:=hcw 4 (by omega)
    simp only [linC,List.getElem?_cons_zero,List.getElem?_cons_succ,Nat.add_zero] at q0 q1 q2 q3 q4
    simp only at hyx
    subst hyx
    obtain ⟨ms,hms⟩:∃ ms,ms=monsA [] ((fs.zip ls).take k):=⟨_,rfl⟩
    have hmk:ms.length≤k:=by
     have:=monsA_len ((fs.zip ls).take k) []
     rw [← hms,List.length_take,List.length_nil] at this
     omega
    rw [← hms] at HO HTK
    obtain ⟨W1,hW1⟩:∃ W,W=wr.alloc (.cells #[.int .i64 x.id,.int .i64 y1,.int .i64 y2,.int .i64 y3,.bool y4] 180):=⟨_,rfl⟩
    have hb1:Below wr.heap.size wr W1:=by rw [hW1];exact (Below.refl _ _).alloc (Nat.le_refl _) _
    have hb1s:wr.heap.size < W1.heap.size:=by rw [hW1];simp
    have hL1:LinAt W1 wr.heap.size ⟨x.id,y1,y2,y3,y4⟩:=by rw [hW1];constructor <;> simp
    have hfo:=found_any ((HF2.out.below HB.out).below hb1) x.id hxf.2.1.id
    rw [hxf.1] at hfo
    have HW1:Hid (W1=_):=hW1
    clear hcw hx hy hms hW1
    obtain ⟨id,item,kind,qty,price,ofI,day⟩:=x
    unfold evV at hfo
    simp only at hfo HTK hxf HW1 q0 hL1
    have hd:=hxf.2.2
    go_wp2_with fail
    rw [← HW1.out]
    refine hfo.mono ?_
    rintro r w3 ⟨rfl,hb3⟩
    obtain ⟨W4,hW4⟩:∃ W,W=w3.alloc (.cells #[.int .i64 id,.string item,.int .i64 kind,.int .i64 qty,.int .i64 price,.int .i64 ofI,.int .i64 day] 93):=⟨_,rfl⟩
    have hb4:Below w3.heap.size w3 W4:=by rw [hW4];exact (Below.refl _ _).alloc (Nat.le_refl _) _
    have hE4:EvAt W4 w3.heap.size ⟨id,item,kind,qty,price,ofI,day⟩:=by rw [hW4];constructor <;> simp
    have hL4:=(hL1.below hb3).below hb4
    have hB4:Below w2.heap.size w2 W4:=((HB.out.trans (hb1.mono HB.out.size)).trans (hb3.mono (Nat.le_trans HB.out.size hb1.size))).trans (hb4.mono (Nat.le_trans (Nat.le_trans HB.out.size hb1.size) hb3.size))
    have hbr:Below wr.heap.size wr W4:=(hb1.trans (hb3.mono hb1.size)).trans (hb4.mono (Nat.le_trans hb1.size hb3.size))
    have hmo:=dmonth_ok day W4 (HT2.out.below hB4) hd.1 hd.2
    have HO4:Hid (W4.ownsRow w2.heap.size 287 6 u4 ms.length (ms.flatMap monC)):=own_below HO.out hbr (Nat.le_refl _)
    have HW4:Hid (W4=_):=hW4
    clear hfo hW4 hb1 hL1 HW1 q0 q1 q2 q3 q4
    go_wp2_with fail
    rw [← HW4.out]
    refine hmo.mono ?_
    rintro r w5 ⟨rfl,hw5⟩
    subst w5
    clear hmo HW4
    obtain ⟨N,hN⟩:∃ N,N=dK day:=⟨_,rfl⟩
    rw [← hN] at HTK ⊢
    clear hN
    have hwl:=(HO.out).lt
    have hs3:wr.heap.size < w3.heap.size:=Nat.lt_of_lt_of_le (by have:=hb1s;omega) hb3.size
    rcases List.eq_nil_or_concat ms with hms | ⟨a,m,hms⟩
    ·subst hms
     obtain ⟨ad4,cp4,hu4⟩:=own_lenN HO4.out
     subst hu4
     have HO5:Hid (W4.ownsRow w2.heap.size 287 6 (.slice ad4 0 cp4) 0 []):=HO4.out
     simp only [List.length_nil]
     obtain ⟨a6,ha6⟩:∃ a6:List Mon,a6=[]:=⟨_,rfl⟩
     obtain ⟨f6,hf60⟩:∃ f6:Fig,f6=fig0:=⟨_,rfl⟩
     have hal:a6.length≤k:=by rw [ha6];exact Nat.zero_le _
     go_wp2_with (first
      | (at_builtin;refine wpList_append_own _ rfl _ _ 284 rfl w2.heap.size 287 i0 monZ 6 48 Tryz.underlying284 hi hz0 hz1 hz2 rfl (by decide) _ _ _ rfl (HO5.out.alloc _) ⟨W4.heap.size,0,none⟩ 1 1 (monC ⟨(N:Int),fig0⟩) rfl rfl ?d1 ?d2 ?d3 ?d4 ?d5 ?_)
      | go_in)
     case d1=>exact cells_of_list rfl
     case d2=>exact monC_one _
     case d3=>unfold maxLen;omega
     case d4=>omega
     case d5=>have:=hB4.size;simp;omega
     intro v6 w6 hown6 hgr6 _
     obtain ⟨W5,hW5⟩:∃ W,W=W4.alloc (.cells #[.int .i64 (N:Int),.int .i64 0,.int .i64 0,.int .i64 0,.int .i64 0,.int .i64 0] 287):=⟨_,rfl⟩
     rw [← hW5] at hgr6
     have hb5:Below W4.heap.size W4 W5:=by rw [hW5];exact (Below.refl _ _).alloc (Nat.le_refl _) _
     have HO6:Hid (w6.ownsRow w2.heap.size 287 6 v6 (a6 ++ [(⟨(N:Int),fig0⟩:Mon)]).length ((a6 ++ [(⟨(N:Int),fig0⟩:Mon)]).flatMap monC)):=by
      show World.ownsRow _ _ _ _ _ _ _
      rw [List.flatMap_append,List.length_append]
      simp only [List.flatMap_cons,List.flatMap_nil,List.append_nil,List.length_cons,List.length_nil]
      rw [ha6]
      exact hown6
     have HB6:Hid (Below w2.heap.size w2 w6):=(hB4.trans (hb5.mono hB4.size)).grown hgr6 (Nat.le_trans hB4.size hb5.size) (fun j hj=>(HO.out.lt j hj).1)
     have HE6:Hid (EvAt w6 w3.heap.size ⟨id,item,kind,qty,price,ofI,day⟩):=ev_grown (hE4.below hb5) hgr6 (fun e=>by have:=(hwl _ e).2;have:=hb3.size;omega)
     have HL6:Hid (LinAt w6 wr.heap.size ⟨id,y1,y2,y3,y4⟩):=lin_grown (hL4.below hb5) hgr6 (fun e=>by have:=(hwl _ e).2;omega)
     have HA6:Hid (∀ f:Fig,addM [] N f=a6 ++ [(⟨N,f6.plus f⟩:Mon)]):=fun f=>by rw [ha6,hf60];rfl
     have HK6:Hid (wr.heap.size < w6.heap.size∧w3.heap.size < w6.heap.size):=⟨World.block_lt_of_cell? _ _ HL6.out.c0,World.block_lt_of_cell? _ _ HE6.out.c0⟩
     have hf6:f6=fig0:=hf60
     rw [← hf6] at HO6
     clear hown6 hgr6 hb5 hW5 HO5 HO4 hE4 hL4 hf6 hf60
     clear ha6
     have c2:=HE6.out.c2
     have l0:=HL6.out.c0
     have l1:=HL6.out.c1
     have l2:=HL6.out.c2
     have l3:=HL6.out.c3
     have l4:=HL6.out.c4
     simp only at c2 l0 l1 l2 l3 l4
     rcases own_form HO6.out with ⟨_,z2,_⟩ | ⟨g6,cp6,e6,hg6,_⟩
     ·rw [List.length_append] at z2;exact absurd z2 (by simp)
     ·subst e6
      obtain ⟨v1,v2,v3,v4,v5⟩:=f6
      have m1:=(own_cell monC_len HO6.out a6.length 1 (by simp) (by decide)).1
      have m2:=(own_cell monC_len HO6.out a6.length 2 (by simp) (by decide)).1
      have m3:=(own_cell monC_len HO6.out a6.length 3 (by simp) (by decide)).1
      have m4:=(own_cell monC_len HO6.out a6.length 4 (by simp) (by decide)).1
      have m5:=(own_cell monC_len HO6.out a6.length 5 (by simp) (by decide)).1
      simp only [List.getElem_append_right (Nat.le_refl _),Nat.sub_self,List.getElem_cons_zero,monC,figC,List.getElem?_cons_zero,List.getElem?_cons_succ] at m1 m2 m3 m4 m5
      simp only [List.length_append,List.length_cons,List.length_nil,Nat.zero_add]
      go_wp2_with fail
      refine wp_region_turn [(.pure,0),(.pure,1),(.pure,2),(.pure,3),(.read,4),(.pure,5),(.read,6),(.read,7),(.make,8),(.make,9),(.pure,10),(.pure,11),(.turn,12)] (by kernel_rfl) (by kernel_rfl) ?_
      obtain ⟨W7,hW7⟩:∃ W,W=w6.drew:=⟨_,rfl⟩
      rw [← hW7]
      have hb7:Below w6.heap.size w6 W7:=by rw [hW7];exact below_drew _
      have hU:=up_ne
      have hA:=anyW_ne
      have p0:=fun n:Up W7=>n.cell (below_cell hb7 c2)
      have p1:=fun n:Up W7=>n.cell (below_cell hb7 l0)
      have p2:=fun n:Up W7=>n.cell (below_cell hb7 l1)
      have p3:=fun n:Up W7=>n.cell (below_cell hb7 l2)
      have p4:=fun n:Up W7=>n.cell (below_cell hb7 l3)
      have p5:=fun n:Up W7=>n.cell (below_cell hb7 l4)
      have p6:=fun n:Up W7=>n.cell (below_cell hb7 m1)
      have p7:=fun n:Up W7=>n.cell (below_cell hb7 m2)
      have p8:=fun n:Up W7=>n.cell (below_cell hb7 m3)
      have p9:=fun n:Up W7=>n.cell (below_cell hb7 m4)
      have p10:=fun n:Up W7=>n.cell (below_cell hb7 m5)
      clear c2 l0 l1 l2 l3 l4 m1 m2 m3 m4 m5 hW7
      have hfi:=figures_any kind ⟨id,y1,y2,y3,y4⟩ W7
      obtain ⟨F,hF⟩:∃ F,F=figOf kind ⟨id,y1,y2,y3,y4⟩:=⟨_,rfl⟩
      rw [← hF] at hfi HTK
      unfold lineV at hfi
      simp only at hfi
      clear hF
      repeat (first | refine turn_p rfl ?_ | refine turn_q rfl ?_);go_big_quiet_step (fail);refine wpQuiet_nil ?_
      refine turn_n rfl ?_
      clear p0 p1 p2 p3 p4 p5 p6 p7 p8 p9 p10
      go_wp2_with fail
      refine hfi.mono ?_
      rintro r w8 ⟨rfl,hb8⟩
      have hpl:=plus_any ⟨v1,v2,v3,v4,v5⟩ F w8
      obtain ⟨R,hR⟩:∃ R,R=Fig.plus ⟨v1,v2,v3,v4,v5⟩ F:=⟨_,rfl⟩
      have HR:Hid (R=Fig.plus ⟨v1,v2,v3,v4,v5⟩ F):=hR
      rw [← hR] at hpl
      clear hR hfi
      obtain ⟨F1,F2,F3,F4,F5⟩:=F
      unfold figV at hpl ⊢
      simp only at hpl ⊢
      go_wp2_with fail
      refine ⟨rfl,hb8,?_⟩
      refine turn_n rfl ?_
      go_wp2_with fail
      refine hpl.mono ?_
      rintro r w9 ⟨rfl,hb9⟩
      clear hpl
      have hb79:Below w6.heap.size w6 w9:=(hb7.trans (hb8.mono hb7.size)).trans (hb9.mono (Nat.le_trans hb7.size hb8.size))
      have HO9:Hid (w9.ownsRow w2.heap.size 287 6 (.slice (some ⟨g6,0,none⟩) (a6 ++ [(⟨(N:Int),⟨v1,v2,v3,v4,v5⟩⟩:Mon)]).length cp6) (a6 ++ [(⟨(N:Int),⟨v1,v2,v3,v4,v5⟩⟩:Mon)]).length ((a6 ++ [(⟨(N:Int),⟨v1,v2,v3,v4,v5⟩⟩:Mon)]).flatMap monC)):=own_below HO6.out hb79 (Nat.le_refl _)
      obtain ⟨m1,n1⟩:=own_cell monC_len HO9.out a6.length 1 (by simp) (by decide)
      obtain ⟨m2,n2⟩:=own_cell monC_len HO9.out a6.length 2 (by simp) (by decide)
      obtain ⟨m3,n3⟩:=own_cell monC_len HO9.out a6.length 3 (by simp) (by decide)
      obtain ⟨m4,n4⟩:=own_cell monC_len HO9.out a6.length 4 (by simp) (by decide)
      obtain ⟨m5,n5⟩:=own_cell monC_len HO9.out a6.length 5 (by simp) (by decide)
      simp only [List.getElem_append_right (Nat.le_refl _),Nat.sub_self,List.getElem_cons_zero,monC,figC,List.getElem?_cons_zero,List.getElem?_cons_succ] at m1 m2 m3 m4 m5
      obtain ⟨R1,R2,R3,R4,R5⟩:=R
      simp only
      go_wp2_with fail
      refine ⟨rfl,hb9,?_⟩
      repeat (first | refine turn_p rfl ?_ | refine turn_q rfl ?_);go_big_quiet_step (fail);refine wpQuiet_nil ?_
      refine turn_t rfl ?_
      go_wp2_with fail
      refine ⟨rfl,?_⟩
      refine turn_nil ?_
      have hB9:Below w2.heap.size w2 w9:=HB6.out.trans (hb79.mono HB6.out.size)
      have HOF:Hid (World.ownsRow _ _ _ _ _ _ _):=own_fig HO9.out ⟨R1,R2,R3,R4,R5⟩
      have HBF:Hid (Below _ _ _):=below_fig (o:=a6.length * 6) hB9 hg6 (.int .i64 R1) (.int .i64 R2) (.int .i64 R3) (.int .i64 R4) (.int .i64 R5)
      clear m1 m2 m3 m4 m5 n1 n2 n3 n4 n5
      go_wp2
      go_roundw
      case rel=>
       refine ⟨k + 1,by omega,by go_num,?_,HBF⟩
       show World.ownsRow _ _ _ _ _ _ _
       rw [HTK.out,HA6.out,← HR.out]
       have h:=HOF.out
       simp only [List.length_append,List.length_cons,List.length_nil,Nat.zero_add] at h ⊢
       exact h
      case measure=>simp [intOf];omega
    ·rw [List.concat_eq_append] at hms
     subst hms
     have hms0:=HO4.out
     rcases own_form HO4.out with ⟨_,z2,_⟩ | ⟨g4,cp4,e4,_⟩
     ·rw [List.length_append] at z2;exact absurd z2 (by simp)
     ·subst e4
      have hmn:=(own_cell monC_len HO4.out a.length 0 (by simp) (by decide)).1
      simp only [Nat.add_zero,List.getElem_append_right (Nat.le_refl _),Nat.sub_self,List.getElem_cons_zero,monC,List.getElem?_cons_zero] at hmn
      simp only [List.length_append,List.length_cons,List.length_nil,Nat.zero_add] at hmk ⊢
      by_cases hmN:m.n=(N:Int)
      ·obtain ⟨mn,mf⟩:=m
       simp only at hmN hmn
       subst hmN
       obtain ⟨a6,ha6⟩:∃ a6:List Mon,a6=a:=⟨_,rfl⟩
       obtain ⟨f6,hf6⟩:∃ f6:Fig,f6=mf:=⟨_,rfl⟩
       have HO6:Hid (W4.ownsRow w2.heap.size 287 6 (.slice (some ⟨g4,0,none⟩) (a6 ++ [(⟨(N:Int),f6⟩:Mon)]).length cp4) (a6 ++ [(⟨(N:Int),f6⟩:Mon)]).length ((a6 ++ [(⟨(N:Int),f6⟩:Mon)]).flatMap monC)):=by rw [ha6,hf6];exact HO4
       have HA6:Hid (∀ f:Fig,addM (a ++ [(⟨(N:Int),mf⟩:Mon)]) N f=a6 ++ [(⟨(N:Int),f6.plus f⟩:Mon)]):=fun f=>by rw [ha6,hf6];exact addM_same a ⟨N,mf⟩ f
       obtain ⟨w6,hw6⟩:∃ W,W=W4:=⟨_,rfl⟩
       rw [← hw6] at HO6 hE4 hL4 hB4 hmn
       rw [← hw6]
       have HE6:Hid (EvAt w6 w3.heap.size ⟨id,item,kind,qty,price,ofI,day⟩):=hE4
       have HL6:Hid (LinAt w6 wr.heap.size ⟨id,y1,y2,y3,y4⟩):=hL4
       have HB6:Hid (Below w2.heap.size w2 w6):=hB4
       have hal:a6.length≤k:=by rw [ha6];omega
       rw [← ha6] at hmn
       rw [← ha6]
       clear HO4 hms0 ha6 hf6 hE4 hL4
       clear hw6
       have c2:=HE6.out.c2
       have l0:=HL6.out.c0
       have l1:=HL6.out.c1
       have l2:=HL6.out.c2
       have l3:=HL6.out.c3
       have l4:=HL6.out.c4
       simp only at c2 l0 l1 l2 l3 l4
       have hg6:=(HO6.out.lt g4 rfl).1
       obtain ⟨g6,rfl⟩:∃ g,g=g4:=⟨_,rfl⟩
       obtain ⟨cp6,rfl⟩:∃ c,c=cp4:=⟨_,rfl⟩
       obtain ⟨v1,v2,v3,v4,v5⟩:=f6
       have m1:=(own_cell monC_len HO6.out a6.length 1 (by simp) (by decide)).1
       have m2:=(own_cell monC_len HO6.out a6.length 2 (by simp) (by decide)).1
       have m3:=(own_cell monC_len HO6.out a6.length 3 (by simp) (by decide)).1
       have m4:=(own_cell monC_len HO6.out a6.length 4 (by simp) (by decide)).1
       have m5:=(own_cell monC_len HO6.out a6.length 5 (by simp) (by decide)).1
       simp only [List.getElem_append_right (Nat.le_refl _),Nat.sub_self,List.getElem_cons_zero,monC,figC,List.getElem?_cons_zero,List.getElem?_cons_succ] at m1 m2 m3 m4 m5
       go_wp2_with fail
       refine wp_region_turn [(.pure,0),(.pure,1),(.pure,2),(.pure,3),(.read,4),(.pure,5),(.read,6),(.read,7),(.make,8),(.make,9),(.pure,10),(.pure,11),(.turn,12)] (by kernel_rfl) (by kernel_rfl) ?_
       obtain ⟨W7,hW7⟩:∃ W,W=w6.drew:=⟨_,rfl⟩
       rw [← hW7]
       have hb7:Below w6.heap.size w6 W7:=by rw [hW7];exact below_drew _
       have hU:=up_ne
       have hA:=anyW_ne
       have p0:=fun n:Up W7=>n.cell (below_cell hb7 c2)
       have p1:=fun n:Up W7=>n.cell (below_cell hb7 l0)
       have p2:=fun n:Up W7=>n.cell (below_cell hb7 l1)
       have p3:=fun n:Up W7=>n.cell (below_cell hb7 l2)
       have p4:=fun n:Up W7=>n.cell (below_cell hb7 l3)
       have p5:=fun n:Up W7=>n.cell (below_cell hb7 l4)
       have p6:=fun n:Up W7=>n.cell (below_cell hb7 m1)
       have p7:=fun n:Up W7=>n.cell (below_cell hb7 m2)
       have p8:=fun n:Up W7=>n.cell (below_cell hb7 m3)
       have p9:=fun n:Up W7=>n.cell (below_cell hb7 m4)
       have p10:=fun n:Up W7=>n.cell (below_cell hb7 m5)
       clear c2 l0 l1 l2 l3 l4 m1 m2 m3 m4 m5 hW7
       have hfi:=figures_any kind ⟨id,y1,y2,y3,y4⟩ W7
       obtain ⟨F,hF⟩:∃ F,F=figOf kind ⟨id,y1,y2,y3,y4⟩:=⟨_,rfl⟩
       rw [← hF] at hfi HTK
       unfold lineV at hfi
       simp only at hfi
       clear hF
       repeat (first | refine turn_p rfl ?_ | refine turn_q rfl ?_);go_big_quiet_step (fail);refine wpQuiet_nil ?_
       refine turn_n rfl ?_
       clear p0 p1 p2 p3 p4 p5 p6 p7 p8 p9 p10
       go_wp2_with fail
       refine hfi.mono ?_
       rintro r w8 ⟨rfl,hb8⟩
       have hpl:=plus_any ⟨v1,v2,v3,v4,v5⟩ F w8
       obtain ⟨R,hR⟩:∃ R,R=Fig.plus ⟨v1,v2,v3,v4,v5⟩ F:=⟨_,rfl⟩
       have HR:Hid (R=Fig.plus ⟨v1,v2,v3,v4,v5⟩ F):=hR
       rw [← hR] at hpl
       clear hR hfi
       obtain ⟨F1,F2,F3,F4,F5⟩:=F
       unfold figV at hpl ⊢
       simp only at hpl ⊢
       go_wp2_with fail
       refine ⟨rfl,hb8,?_⟩
       refine turn_n rfl ?_
       go_wp2_with fail
       refine hpl.mono ?_
       rintro r w9 ⟨rfl,hb9⟩
       clear hpl
       have hb79:Below w6.heap.size w6 w9:=(hb7.trans (hb8.mono hb7.size)).trans (hb9.mono (Nat.le_trans hb7.size hb8.size))
       have HO9:Hid (w9.ownsRow w2.heap.size 287 6 (.slice (some ⟨g6,0,none⟩) (a6 ++ [(⟨(N:Int),⟨v1,v2,v3,v4,v5⟩⟩:Mon)]).length cp6) (a6 ++ [(⟨(N:Int),⟨v1,v2,v3,v4,v5⟩⟩:Mon)]).length ((a6 ++ [(⟨(N:Int),⟨v1,v2,v3,v4,v5⟩⟩:Mon)]).flatMap monC)):=own_below HO6.out hb79 (Nat.le_refl _)
       obtain ⟨m1,n1⟩:=own_cell monC_len HO9.out a6.length 1 (by simp) (by decide)
       obtain ⟨m2,n2⟩:=own_cell monC_len HO9.out a6.length 2 (by simp) (by decide)
       obtain ⟨m3,n3⟩:=own_cell monC_len HO9.out a6.length 3 (by simp) (by decide)
       obtain ⟨m4,n4⟩:=own_cell monC_len HO9.out a6.length 4 (by simp) (by decide)
       obtain ⟨m5,n5⟩:=own_cell monC_len HO9.out a6.length 5 (by simp) (by decide)
       simp only [List.getElem_append_right (Nat.le_refl _),Nat.sub_self,List.getElem_cons_zero,monC,figC,List.getElem?_cons_zero,List.getElem?_cons_succ] at m1 m2 m3 m4 m5
       obtain ⟨R1,R2,R3,R4,R5⟩:=R
       simp only
       go_wp2_with fail
       refine ⟨rfl,hb9,?_⟩
       repeat (first | refine turn_p rfl ?_ | refine turn_q rfl ?_);go_big_quiet_step (fail);refine wpQuiet_nil ?_
       refine turn_t rfl ?_
       go_wp2_with fail
       refine ⟨rfl,?_⟩
       refine turn_nil ?_
       have hB9:Below w2.heap.size w2 w9:=HB6.out.trans (hb79.mono HB6.out.size)
       have HOF:Hid (World.ownsRow _ _ _ _ _ _ _):=own_fig HO9.out ⟨R1,R2,R3,R4,R5⟩
       have HBF:Hid (Below _ _ _):=below_fig (o:=a6.length * 6) hB9 hg6 (.int .i64 R1) (.int .i64 R2) (.int .i64 R3) (.int .i64 R4) (.int .i64 R5)
       clear m1 m2 m3 m4 m5 n1 n2 n3 n4 n5
       go_wp2
       go_roundw
       case rel=>
        refine ⟨k + 1,by omega,by go_num,?_,HBF⟩
        show World.ownsRow _ _ _ _ _ _ _
        rw [HTK.out,HA6.out,← HR.out]
        have h:=HOF.out
        simp only [List.length_append,List.length_cons,List.length_nil,Nat.zero_add] at h ⊢
        exact h
       case measure=>simp [intOf];omega
      ·have hne:(m.n != (N:Int))=true:=by simpa using hmN
       have hne0:(((a.length:Int) + 1) == 0)=false:=by simp;omega
       have HO5:Hid (W4.ownsRow w2.heap.size 287 6 (.slice (some ⟨g4,0,none⟩) (a.length + 1) cp4) (a.length + 1) ((a ++ [m]).flatMap monC)):=by
        have:=HO4.out
        simp only [List.length_append,List.length_cons,List.length_nil,Nat.zero_add] at this
        exact this
       obtain ⟨a6,ha6⟩:∃ a6:List Mon,a6=a ++ [m]:=⟨_,rfl⟩
       obtain ⟨f6,hf60⟩:∃ f6:Fig,f6=fig0:=⟨_,rfl⟩
       have hal:a6.length≤k:=by rw [ha6,List.length_append];simp;omega
       have HAM:Hid (a6=a ++ [m]):=ha6
       clear ha6
       go_wp2_with (first
        | (at_builtin;refine wpList_append_own _ rfl _ _ 284 rfl w2.heap.size 287 i0 monZ 6 48 Tryz.underlying284 hi hz0 hz1 hz2 rfl (by decide) _ _ _ rfl (HO5.out.alloc _) ⟨W4.heap.size,0,none⟩ 1 1 (monC ⟨(N:Int),fig0⟩) rfl rfl ?d1 ?d2 ?d3 ?d4 ?d5 ?_)
        | go_in)
       case d1=>exact cells_of_list rfl
       case d2=>exact monC_one _
       case d3=>unfold maxLen;omega
       case d4=>omega
       case d5=>have:=hB4.size;simp;omega
       intro v6 w6 hown6 hgr6 _
       obtain ⟨W5,hW5⟩:∃ W,W=W4.alloc (.cells #[.int .i64 (N:Int),.int .i64 0,.int .i64 0,.int .i64 0,.int .i64 0,.int .i64 0] 287):=⟨_,rfl⟩
       rw [← hW5] at hgr6
       have hb5:Below W4.heap.size W4 W5:=by rw [hW5];exact (Below.refl _ _).alloc (Nat.le_refl _) _
       have HO6:Hid (w6.ownsRow w2.heap.size 287 6 v6 (a6 ++ [(⟨(N:Int),fig0⟩:Mon)]).length ((a6 ++ [(⟨(N:Int),fig0⟩:Mon)]).flatMap monC)):=by
        show World.ownsRow _ _ _ _ _ _ _
        rw [List.flatMap_append,List.length_append]
        simp only [List.flatMap_cons,List.flatMap_nil,List.append_nil,List.length_cons,List.length_nil]
        rw [HAM.out]
        simp only [List.flatMap_append,List.flatMap_cons,List.flatMap_nil,List.append_nil,List.length_append,List.length_cons,List.length_nil,List.append_assoc,Nat.zero_add]
        exact hown6
       have HB6:Hid (Below w2.heap.size w2 w6):=(hB4.trans (hb5.mono hB4.size)).grown hgr6 (Nat.le_trans hB4.size hb5.size) (fun j hj=>(HO.out.lt j hj).1)
       have HE6:Hid (EvAt w6 w3.heap.size ⟨id,item,kind,qty,price,ofI,day⟩):=ev_grown (hE4.below hb5) hgr6 (fun e=>by have:=(hwl _ e).2;have:=hb3.size;omega)
       have HL6:Hid (LinAt w6 wr.heap.size ⟨id,y1,y2,y3,y4⟩):=lin_grown (hL4.below hb5) hgr6 (fun e=>by have:=(hwl _ e).2;omega)
       have HA6:Hid (∀ f:Fig,addM (a ++ [m]) N f=a6 ++ [(⟨N,f6.plus f⟩:Mon)]):=fun f=>by rw [HAM.out,hf60];exact addM_other a m N f hmN
       have HK6:Hid (wr.heap.size < w6.heap.size∧w3.heap.size < w6.heap.size):=⟨World.block_lt_of_cell? _ _ HL6.out.c0,World.block_lt_of_cell? _ _ HE6.out.c0⟩
       have hf6:f6=fig0:=hf60
       rw [← hf6] at HO6
       clear hown6 hgr6 hb5 hW5 HO5 HO4 hE4 hL4 hf6 hf60
       have c2:=HE6.out.c2
       have l0:=HL6.out.c0
       have l1:=HL6.out.c1
       have l2:=HL6.out.c2
       have l3:=HL6.out.c3
       have l4:=HL6.out.c4
       simp only at c2 l0 l1 l2 l3 l4
       rcases own_form HO6.out with ⟨_,z2,_⟩ | ⟨g6,cp6,e6,hg6,_⟩
       ·rw [List.length_append] at z2;exact absurd z2 (by simp)
       ·subst e6
        obtain ⟨v1,v2,v3,v4,v5⟩:=f6
        have m1:=(own_cell monC_len HO6.out a6.length 1 (by simp) (by decide)).1
        have m2:=(own_cell monC_len HO6.out a6.length 2 (by simp) (by decide)).1
        have m3:=(own_cell monC_len HO6.out a6.length 3 (by simp) (by decide)).1
        have m4:=(own_cell monC_len HO6.out a6.length 4 (by simp) (by decide)).1
        have m5:=(own_cell monC_len HO6.out a6.length 5 (by simp) (by decide)).1
        simp only [List.getElem_append_right (Nat.le_refl _),Nat.sub_self,List.getElem_cons_zero,monC,figC,List.getElem?_cons_zero,List.getElem?_cons_succ] at m1 m2 m3 m4 m5
        simp only [List.length_append,List.length_cons,List.length_nil,Nat.zero_add]
        go_wp2_with fail
        refine wp_region_turn [(.pure,0),(.pure,1),(.pure,2),(.pure,3),(.read,4),(.pure,5),(.read,6),(.read,7),(.make,8),(.make,9),(.pure,10),(.pure,11),(.turn,12)] (by kernel_rfl) (by kernel_rfl) ?_
        obtain ⟨W7,hW7⟩:∃ W,W=w6.drew:=⟨_,rfl⟩
        rw [← hW7]
        have hb7:Below w6.heap.size w6 W7:=by rw [hW7];exact below_drew _
        have hU:=up_ne
        have hA:=anyW_ne
        have p0:=fun n:Up W7=>n.cell (below_cell hb7 c2)
        have p1:=fun n:Up W7=>n.cell (below_cell hb7 l0)
        have p2:=fun n:Up W7=>n.cell (below_cell hb7 l1)
        have p3:=fun n:Up W7=>n.cell (below_cell hb7 l2)
        have p4:=fun n:Up W7=>n.cell (below_cell hb7 l3)
        have p5:=fun n:Up W7=>n.cell (below_cell hb7 l4)
        have p6:=fun n:Up W7=>n.cell (below_cell hb7 m1)
        have p7:=fun n:Up W7=>n.cell (below_cell hb7 m2)
        have p8:=fun n:Up W7=>n.cell (below_cell hb7 m3)
        have p9:=fun n:Up W7=>n.cell (below_cell hb7 m4)
        have p10:=fun n:Up W7=>n.cell (below_cell hb7 m5)
        clear c2 l0 l1 l2 l3 l4 m1 m2 m3 m4 m5 hW7
        have hfi:=figures_any kind ⟨id,y1,y2,y3,y4⟩ W7
        obtain ⟨F,hF⟩:∃ F,F=figOf kind ⟨id,y1,y2,y3,y4⟩:=⟨_,rfl⟩
        rw [← hF] at hfi HTK
        unfold lineV at hfi
        simp only at hfi
        clear hF
        repeat (first | refine turn_p rfl ?_ | refine turn_q rfl ?_);go_big_quiet_step (fail);refine wpQuiet_nil ?_
        refine turn_n rfl ?_
        clear p0 p1 p2 p3 p4 p5 p6 p7 p8 p9 p10
        go_wp2_with fail
        refine hfi.mono ?_
        rintro r w8 ⟨rfl,hb8⟩
        have hpl:=plus_any ⟨v1,v2,v3,v4,v5⟩ F w8
        obtain ⟨R,hR⟩:∃ R,R=Fig.plus ⟨v1,v2,v3,v4,v5⟩ F:=⟨_,rfl⟩
        have HR:Hid (R=Fig.plus ⟨v1,v2,v3,v4,v5⟩ F):=hR
        rw [← hR] at hpl
        clear hR hfi
        obtain ⟨F1,F2,F3,F4,F5⟩:=F
        unfold figV at hpl ⊢
        simp only at hpl ⊢
        go_wp2_with fail
        refine ⟨rfl,hb8,?_⟩
        refine turn_n rfl ?_
        go_wp2_with fail
        refine hpl.mono ?_
        rintro r w9 ⟨rfl,hb9⟩
        clear hpl
        have hb79:Below w6.heap.size w6 w9:=(hb7.trans (hb8.mono hb7.size)).trans (hb9.mono (Nat.le_trans hb7.size hb8.size))
        have HO9:Hid (w9.ownsRow w2.heap.size 287 6 (.slice (some ⟨g6,0,none⟩) (a6 ++ [(⟨(N:Int),⟨v1,v2,v3,v4,v5⟩⟩:Mon)]).length cp6) (a6 ++ [(⟨(N:Int),⟨v1,v2,v3,v4,v5⟩⟩:Mon)]).length ((a6 ++ [(⟨(N:Int),⟨v1,v2,v3,v4,v5⟩⟩:Mon)]).flatMap monC)):=own_below HO6.out hb79 (Nat.le_refl _)
        obtain ⟨m1,n1⟩:=own_cell monC_len HO9.out a6.length 1 (by simp) (by decide)
        obtain ⟨m2,n2⟩:=own_cell monC_len HO9.out a6.length 2 (by simp) (by decide)
        obtain ⟨m3,n3⟩:=own_cell monC_len HO9.out a6.length 3 (by simp) (by decide)
        obtain ⟨m4,n4⟩:=own_cell monC_len HO9.out a6.length 4 (by simp) (by decide)
        obtain ⟨m5,n5⟩:=own_cell monC_len HO9.out a6.length 5 (by simp) (by decide)
        simp only [List.getElem_append_right (Nat.le_refl _),Nat.sub_self,List.getElem_cons_zero,monC,figC,List.getElem?_cons_zero,List.getElem?_cons_succ] at m1 m2 m3 m4 m5
        obtain ⟨R1,R2,R3,R4,R5⟩:=R
        simp only
        go_wp2_with fail
        refine ⟨rfl,hb9,?_⟩
        repeat (first | refine turn_p rfl ?_ | refine turn_q rfl ?_);go_big_quiet_step (fail);refine wpQuiet_nil ?_
        refine turn_t rfl ?_
        go_wp2_with fail
        refine ⟨rfl,?_⟩
        refine turn_nil ?_
        have hB9:Below w2.heap.size w2 w9:=HB6.out.trans (hb79.mono HB6.out.size)
        have HOF:Hid (World.ownsRow _ _ _ _ _ _ _):=own_fig HO9.out ⟨R1,R2,R3,R4,R5⟩
        have HBF:Hid (Below _ _ _):=below_fig (o:=a6.length * 6) hB9 hg6 (.int .i64 R1) (.int .i64 R2) (.int .i64 R3) (.int .i64 R4) (.int .i64 R5)
        clear m1 m2 m3 m4 m5 n1 n2 n3 n4 n5
        go_wp2
        go_roundw
        case rel=>
         refine ⟨k + 1,by omega,by go_num,?_,HBF⟩
         show World.ownsRow _ _ _ _ _ _ _
         rw [HTK.out,HA6.out,← HR.out]
         have h:=HOF.out
         simp only [List.length_append,List.length_cons,List.length_nil,Nat.zero_add] at h ⊢
         exact h
        case measure=>simp [intOf];omega
  ·obtain rfl:k=ls.length:=by omega
   have ho:=HO.out
   rw [List.take_of_length_le (by rw [List.length_zip];omega),← HMS.out] at ho
   go_wp2
   go_ret
   exact ⟨_,rfl,own_low ho hB2.size,hB2.trans (HB.out.mono hB2.size)⟩
structure FigAt (w:World) (b:Nat) (f:Fig):Prop where
  c0:w.cell? ⟨b,0,none⟩=some (.int .i64 f.inn)
  c1:w.cell? ⟨b,1,none⟩=some (.int .i64 f.out)
  c2:w.cell? ⟨b,2,none⟩=some (.int .i64 f.loss)
  c3:w.cell? ⟨b,3,none⟩=some (.int .i64 f.gain)
  c4:w.cell? ⟨b,4,none⟩=some (.int .i64 f.late)
  z0:w.frozen? ⟨b,0,none⟩=false
  z1:w.frozen? ⟨b,1,none⟩=false
  z2:w.frozen? ⟨b,2,none⟩=false
  z3:w.frozen? ⟨b,3,none⟩=false
  z4:w.frozen? ⟨b,4,none⟩=false
theorem FigAt.lt {w:World} {b:Nat} {f:Fig} (h:FigAt w b f):b < w.heap.size:=World.block_lt_of_cell? _ _ h.c0
theorem FigAt.same {w w':World} {b:Nat} {f:Fig} (h:FigAt w b f) (e:w'.heap[b]?=w.heap[b]?):FigAt w' b f:=
  ⟨(World.cell?_of_block (a:=⟨b,0,none⟩) e).trans h.c0,(World.cell?_of_block (a:=⟨b,1,none⟩) e).trans h.c1,(World.cell?_of_block (a:=⟨b,2,none⟩) e).trans h.c2,(World.cell?_of_block (a:=⟨b,3,none⟩) e).trans h.c3,(World.cell?_of_block (a:=⟨b,4,none⟩) e).trans h.c4,
   (World.frozen?_of_block (a:=⟨b,0,none⟩) e).trans h.z0,(World.frozen?_of_block (a:=⟨b,1,none⟩) e).trans h.z1,(World.frozen?_of_block (a:=⟨b,2,none⟩) e).trans h.z2,(World.frozen?_of_block (a:=⟨b,3,none⟩) e).trans h.z3,(World.frozen?_of_block (a:=⟨b,4,none⟩) e).trans h.z4⟩
theorem FigAt.below {w w':World} {b:Nat} {f:Fig} (h:FigAt w b f) (hb:Below w.heap.size w w'):FigAt w' b f:=h.same (hb.block b h.lt)
def set5 (w:World) (b:Nat) (f:Fig):World:=((((w.setCell ⟨b,0,none⟩ (.int .i64 f.inn)).setCell ⟨b,1,none⟩ (.int .i64 f.out)).setCell ⟨b,2,none⟩ (.int .i64 f.loss)).setCell ⟨b,3,none⟩ (.int .i64 f.gain)).setCell ⟨b,4,none⟩ (.int .i64 f.late)
theorem ad_ne {b i j:Nat} (h:i ≠ j):(⟨b,i,none⟩:Addr) ≠ ⟨b,j,none⟩:=fun e=>h (by injection e)
theorem FigAt.put {w:World} {b:Nat} {f:Fig} (h:FigAt w b f) (g:Fig):FigAt (set5 w b g) b g:=by
  unfold set5
  have s:=@set_same
  refine ⟨?_,?_,?_,?_,?_,?_,?_,?_,?_,?_⟩
  · rw [set_other (ad_ne (by decide)),set_other (ad_ne (by decide)),set_other (ad_ne (by decide)),set_other (ad_ne (by decide))];exact set_same h.c0
  · rw [set_other (ad_ne (by decide)),set_other (ad_ne (by decide)),set_other (ad_ne (by decide))];exact set_same ((set_other (ad_ne (by decide))).trans h.c1)
  · rw [set_other (ad_ne (by decide)),set_other (ad_ne (by decide))];exact set_same ((set_other (ad_ne (by decide))).trans ((set_other (ad_ne (by decide))).trans h.c2))
  · rw [set_other (ad_ne (by decide))];exact set_same ((set_other (ad_ne (by decide))).trans ((set_other (ad_ne (by decide))).trans ((set_other (ad_ne (by decide))).trans h.c3)))
  · exact set_same ((set_other (ad_ne (by decide))).trans ((set_other (ad_ne (by decide))).trans ((set_other (ad_ne (by decide))).trans ((set_other (ad_ne (by decide))).trans h.c4))))
  · rw [set_frz,set_frz,set_frz,set_frz,set_frz];exact h.z0
  · rw [set_frz,set_frz,set_frz,set_frz,set_frz];exact h.z1
  · rw [set_frz,set_frz,set_frz,set_frz,set_frz];exact h.z2
  · rw [set_frz,set_frz,set_frz,set_frz,set_frz];exact h.z3
  · rw [set_frz,set_frz,set_frz,set_frz,set_frz];exact h.z4
theorem sc_os (w:World) (a:Addr) (v:Value):(w.setCell a v).os=w.os:=rfl
theorem sc_tape (w:World) (a:Addr) (v:Value):(w.setCell a v).tape=w.tape:=rfl
theorem sc_out (w:World) (a:Addr) (v:Value):(w.setCell a v).output=w.output:=rfl
theorem set5_other (w:World) (b:Nat) (f:Fig) {k:Nat} (h:k ≠ b):(set5 w b f).heap[k]?=w.heap[k]?:=by
  unfold set5
  rw [Below.heap_setCell _ _ _ _ (by exact h),Below.heap_setCell _ _ _ _ (by exact h),Below.heap_setCell _ _ _ _ (by exact h),Below.heap_setCell _ _ _ _ (by exact h),Below.heap_setCell _ _ _ _ (by exact h)]
theorem set5_size (w:World) (b:Nat) (f:Fig):(set5 w b f).heap.size=w.heap.size:=by
  unfold set5;simp [World.setCell]
theorem set5_oth (w:World) (b:Nat) (f:Fig):(set5 w b f).os=w.os∧(set5 w b f).tape=w.tape∧(set5 w b f).output=w.output:=by
  unfold set5
  simp only [sc_os,sc_tape,sc_out,and_self]
theorem turned_set5 (w:World) (b:Nat) (f:Fig) (sv:Value):Turned w (set5 w b f) b sv:=
  ⟨(set5_oth w b f).1,(set5_oth w b f).2.1,(set5_oth w b f).2.2,Nat.le_of_eq (set5_size w b f).symm,fun _ _ hk _=>set5_other w b f hk⟩
theorem fig_new (w:World):FigAt (w.alloc (.cells #[.int .i64 0,.int .i64 0,.int .i64 0,.int .i64 0,.int .i64 0] 151)) w.heap.size fig0:=by
  constructor <;> simp [fig0]
def nilS:Value:=.slice none 0 0
theorem turned_below {w w1 w2:World} {b:Nat} (h:Turned w w1 b nilS) (hb:Below w1.heap.size w1 w2):Turned w w2 b nilS:=
  h.trans (Turned.of_below hb) (Fresh.refl _ _)
set_option maxRecDepth 20000 in
set_option maxHeartbeats 8000000 in
theorem until_any (l:List Ev) (v:Value) (m:Int) (w:World) (h:EvsAt w v l) (hw:∀ e ∈ l,EvW e) (hl:l.length≤10000) (hn:(l.map (·.id)).Nodup) (ht:LenTab w) :
    Calls Tryz.prog 209 #[v,.int .i64 m] w fun r w'=>r = .returned (figV (untl l m))∧Below w.heap.size w w':=by
  obtain ⟨W0,hW0⟩:∃ W,W=(w.alloc (.cells #[.int .i64 0,.int .i64 0,.int .i64 0,.int .i64 0,.int .i64 0] 151)).alloc (.cells #[.int .i64 0,.int .i64 0,.int .i64 0,.int .i64 0,.int .i64 0] 151):=⟨_,rfl⟩
  have hb0:Below w.heap.size w W0:=by rw [hW0];exact ((Below.refl _ _).alloc (Nat.le_refl _) _).alloc (by simp) _
  have hs0:W0.heap.size=w.heap.size + 2:=by rw [hW0];simp
  have hR0:FigAt W0 w.heap.size fig0:=by rw [hW0];exact (fig_new w).below ((Below.refl _ _).alloc (Nat.le_refl _) _)
  have hF0:FigAt W0 (w.heap.size + 1) fig0:=by
    rw [hW0]
    have:=fig_new (w.alloc (.cells #[.int .i64 0,.int .i64 0,.int .i64 0,.int .i64 0,.int .i64 0] 151))
    simpa using this
  have hmo:=months_any l v W0 (h.below hb0) hw hl hn (ht.below hb0)
  have hml:=mons_len l
  obtain ⟨U,hU⟩:∃ U,U=untl l m:=⟨_,rfl⟩
  have HU:Hid (U=upto m fig0 (mons l)):=hU
  obtain ⟨ms,hms⟩:∃ ms,ms=mons l:=⟨_,rfl⟩
  rw [← hms] at hmo hml HU
  rw [← hU]
  clear hU
  obtain ⟨u1,u2,u3,u4,u5⟩:=U
  have HW0:Hid (W0=_):=hW0
  obtain ⟨ao,cap,rfl,_⟩:=h.toC
  clear h hw hn ht hms hW0
  go_enter Tryz.func209,Tryz.ntmps209
  go_wp2_with fail
  rw [← HW0.out]
  refine hmo.mono ?_
  rintro r w1 ⟨mv,rfl,hown,hb1⟩
  obtain ⟨ad,cpm,hmv⟩:=own_lenN hown
  subst hmv
  have HOWN:Hid (w1.ownsRow W0.heap.size 287 6 (.slice ad ms.length cpm) ms.length (ms.flatMap monC)):=hown
  have HR1:Hid (FigAt w1 w.heap.size fig0):=hR0.below hb1
  have HF1:Hid (FigAt w1 (w.heap.size + 1) fig0):=hF0.below hb1
  have hB1:Below w.heap.size w w1:=hb0.trans (hb1.mono hb0.size)
  have hs1:w.heap.size + 2≤w1.heap.size:=by have:=hb1.size;omega
  clear hmo hown hb1 HW0 hR0 hF0 hb0
  have HS0:Hid (W0.heap.size=w.heap.size + 2):=hs0
  clear hs0
  go_wp2
  go_loopw [11] (fun i wr=>∃ k:Nat,k≤ms.length∧i = .int .i64 k∧Hid (FigAt wr (w.heap.size + 1) (upto m fig0 (ms.take k)))∧Hid (Turned w1 wr (w.heap.size + 1) nilS)) (fun i _=>ms.length - (intOf i).toNat)
  case atStart=>exact ⟨0,Nat.zero_le _,rfl,HF1,Turned.refl _ _ _⟩
  case round=>
    obtain ⟨k,hk,rfl,HF,HT⟩:=hrel
    by_cases hlt:k < ms.length
    · rcases own_form HOWN.out with ⟨_,a2,_⟩ | ⟨g,cp,e1,hg1,hg2,_⟩
      · omega
      · simp only [Value.slice.injEq] at e1
        obtain ⟨rfl,_,rfl⟩:=e1
        obtain ⟨x,hx⟩:∃ x,x=ms[k]:=⟨_,rfl⟩
        have HTK:Hid (upto m fig0 (ms.take (k + 1))=if x.n≤m then (upto m fig0 (ms.take k)).plus x.f else upto m fig0 (ms.take k)):=by
          show _=_
          rw [List.take_succ_eq_append_getElem hlt,upto_append,hx]
          rfl
        have hgne:g ≠ w.heap.size + 1:=by have:=HS0.out;omega
        have hbl:wr.heap[g]?=w1.heap[g]?:=HT.out.block g hg2 hgne (by simp [nilS,Value.ownBlock])
        have hcw:∀ j,j < 6→wr.cell? ⟨g,k * 6 + j,none⟩=(monC x)[j]?:=fun j hj=>by
          rw [World.cell?_of_block (a:=⟨g,k * 6 + j,none⟩) hbl,(own_cell monC_len HOWN.out k j hlt hj).1,hx]
        obtain ⟨xn,x1,x2,x3,x4,x5⟩:=x
        have q0:=hcw 0 (by omega)
        have q1:=hcw 1 (by omega)
        have q2:=hcw 2 (by omega)
        have q3:=hcw 3 (by omega)
        have q4:=hcw 4 (by omega)
        have q5:=hcw 5 (by omega)
        simp only [monC,figC,List.getElem?_cons_zero,List.getElem?_cons_succ,Nat.add_zero] at q0 q1 q2 q3 q4 q5
        simp only at HTK
        obtain ⟨f,hf⟩:∃ f,f=upto m fig0 (ms.take k):=⟨_,rfl⟩
        rw [← hf] at HF HTK
        clear hcw hx hf hbl
        obtain ⟨W2,hW2⟩:∃ W,W=wr.alloc (.cells #[.int .i64 xn,.int .i64 x1,.int .i64 x2,.int .i64 x3,.int .i64 x4,.int .i64 x5] 287):=⟨_,rfl⟩
        have hb2:Below wr.heap.size wr W2:=by rw [hW2];exact (Below.refl _ _).alloc (Nat.le_refl _) _
        have hF2:=HF.out.below hb2
        have hT2:=turned_below HT.out hb2
        by_cases hc:xn≤m
        · rw [if_pos hc] at HTK
          have hpl:=plus_any f ⟨x1,x2,x3,x4,x5⟩ W2
          obtain ⟨R,hR⟩:∃ R,R=f.plus ⟨x1,x2,x3,x4,x5⟩:=⟨_,rfl⟩
          rw [← hR] at hpl HTK
          have c0:=hF2.c0
          have c1:=hF2.c1
          have c2:=hF2.c2
          have c3:=hF2.c3
          have c4:=hF2.c4
          rw [hW2] at c0 c1 c2 c3 c4
          have HF2:Hid (FigAt W2 (w.heap.size + 1) f):=hF2
          obtain ⟨f1,f2,f3,f4,f5⟩:=f
          obtain ⟨R1,R2,R3,R4,R5⟩:=R
          unfold figV at hpl
          simp only at hpl c0 c1 c2 c3 c4
          have HW2:Hid (W2=_):=hW2
          clear hF2 hW2 hR
          go_wp2_with fail
          rw [← HW2.out]
          refine hpl.mono ?_
          rintro r w3 ⟨rfl,hb3⟩
          have hF3:=HF2.out.below hb3
          have d0:=hF3.c0
          have d1:=hF3.c1
          have d2:=hF3.c2
          have d3:=hF3.c3
          have d4:=hF3.c4
          have e0:=hF3.z0
          have e1:=hF3.z1
          have e2:=hF3.z2
          have e3:=hF3.z3
          have e4:=hF3.z4
          simp only at d0 d1 d2 d3 d4
          have HF4:Hid (FigAt (set5 w3 (w.heap.size + 1) ⟨R1,R2,R3,R4,R5⟩) (w.heap.size + 1) ⟨R1,R2,R3,R4,R5⟩):=hF3.put _
          have HT4:Hid (Turned w1 (set5 w3 (w.heap.size + 1) ⟨R1,R2,R3,R4,R5⟩) (w.heap.size + 1) nilS):=(turned_below hT2 hb3).trans (turned_set5 _ _ _ _) (Fresh.refl _ _)
          clear hpl hF3 c0 c1 c2 c3 c4 q0 q1 q2 q3 q4 q5 hT2
          go_wp2
          go_roundw
          case rel=>
            refine ⟨k + 1,by omega,by go_num,?_,HT4⟩
            show FigAt _ _ _
            rw [HTK.out]
            exact HF4.out
          case measure=>simp [intOf];omega
        · rw [if_neg hc] at HTK
          have HF2:Hid (FigAt W2 (w.heap.size + 1) (upto m fig0 (ms.take (k + 1)))):=by rw [HTK.out];exact hF2
          have HT2:Hid (Turned w1 W2 (w.heap.size + 1) nilS):=hT2
          rw [hW2] at HF2 HT2
          clear hF2 hT2 hW2
          go_wp2
          go_roundw
          case rel=>exact ⟨k + 1,by omega,by go_num,HF2,HT2⟩
          case measure=>simp [intOf];omega
    · obtain rfl:k=ms.length:=by omega
      rw [List.take_length,← HU.out] at HF
      have hR:=HR1.out.same (HT.out.block w.heap.size (by omega) (by omega) (by simp [nilS,Value.ownBlock]))
      have d0:=hR.c0
      have d1:=hR.c1
      have d2:=hR.c2
      have d3:=hR.c3
      have d4:=hR.c4
      have e0:=hR.z0
      have e1:=hR.z1
      have e2:=hR.z2
      have e3:=hR.z3
      have e4:=hR.z4
      have c0:=HF.out.c0
      have c1:=HF.out.c1
      have c2:=HF.out.c2
      have c3:=HF.out.c3
      have c4:=HF.out.c4
      have HG:=(hR.put ⟨u1,u2,u3,u4,u5⟩)
      have hBF:Below w.heap.size w (set5 wr w.heap.size ⟨u1,u2,u3,u4,u5⟩):=by
        refine ⟨(set5_oth _ _ _).1.trans (HT.out.os.trans hB1.os),(set5_oth _ _ _).2.1.trans (HT.out.tape.trans hB1.tape),(set5_oth _ _ _).2.2.trans (HT.out.output.trans hB1.output),?_,fun j hj=>?_⟩
        · rw [set5_size];have:=HT.out.size;omega
        · rw [set5_other _ _ _ (by omega),HT.out.block j (by omega) (by omega) (by simp [nilS,Value.ownBlock])]
          exact hB1.block j hj
      have g0:=HG.c0
      have g1:=HG.c1
      have g2:=HG.c2
      have g3:=HG.c3
      have g4:=HG.c4
      unfold set5 at g0 g1 g2 g3 g4
      simp only [fig0] at d0 d1 d2 d3 d4
      simp only at c0 c1 c2 c3 c4 g0 g1 g2 g3 g4
      have HBF:Hid _:=hBF
      clear hR HG hBF
      go_wp2
      refine bodyPost_ret (v:=.agg #[.int .i64 u1,.int .i64 u2,.int .i64 u3,.int .i64 u4,.int .i64 u5]) (by simp [results,Tryz.results209,go_sem, *]) rfl ⟨rfl,?_⟩
      exact HBF.out
end Go.Proofs.YtbleojodidbhiaaGreatDoor
