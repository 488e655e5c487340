/-  -/
import Derived.Test.YtdkhohlhdiekmaaGreatDoorBnRl
import Derived.Test.YtdkhohlhdiekmaaGreatDoorBnG
namespace Go.Proofs.YtdkhohlhdiekmaaGreatDoor
open Go.RowKit Go.Maps
theorem lay_of_own {w:World} {B:Nat} {v:Value} {ys:List Lay} (h:w.ownsRow B 299 3 v ys.length (ys.flatMap layC)):LayAt w v ys:=by
 rcases h.2 with ⟨hv,hn⟩ | ⟨g,cap,cur,hv,_,hg,hn,hm,hs,ht⟩
 ·exact Or.inl ⟨hv,List.length_eq_zero_iff.1 hn⟩
 ·refine Or.inr ⟨g,0,cap,cur,hv,hg,hn,hm,by omega,?_⟩
  rw [List.drop_zero]
  exact ht
theorem own_emptyL (w:World):(w.alloc (.cells #[] 299)).ownsRow w.heap.size 299 3 (.slice (some ⟨w.heap.size,0,none⟩) 0 0) 0 []:=
 ⟨rfl,Or.inr ⟨w.heap.size,0,#[],rfl,Nat.le_refl _,heap_alloc_new w _,Nat.le_refl _,Nat.zero_le _,rfl,rfl⟩⟩
theorem lay_ones (ys:List Lay):∀ u ∈ ys.flatMap layC,u.oneCell'=true:=fun u hu=>by
 obtain ⟨y,_,hy⟩:=List.mem_flatMap.1 hu
 exact layC_one y u hy
theorem own_low {w:World} {B b:Nat} {T:TypeId} {m n:Nat} {v:Value} {xs:List Value} (h:w.ownsRow b T m v n xs) (hB:B≤b):w.ownsRow B T m v n xs:=own_below h (Below.refl _ _) hB
theorem own_lenN {w:World} {B:Nat} {T:TypeId} {m n:Nat} {v:Value} {xs:List Value} (h:w.ownsRow B T m v n xs):∃ ad cap,v = .slice ad n cap:=by
 rcases h.2 with ⟨rfl,rfl⟩ | ⟨g,cap,cur,rfl,_⟩
 ·exact ⟨none,0,rfl⟩
 ·exact ⟨_,_,rfl⟩
theorem ne_blk {g g' n c:Nat} (h:g ≠ g'):(Value.slice (some ⟨g,0,none⟩) n c).ownBlock ≠ some g':=fun e=>h (by simpa [Value.ownBlock] using e)
theorem below_add {w w':World} {g:Nat} (hb:Below w.heap.size w w') (hg:g < w.heap.size) (j:Nat):w'.cell? ((⟨g,0,none⟩:Addr).add j)=w.cell? ((⟨g,0,none⟩:Addr).add j):=by
 rw [Addr.add_lit];exact hb.cell (p:=⟨g,0 + j,none⟩) hg
theorem grown_add {w w':World} {g:Nat} {r:Option Nat} (hg:w.grownBy w' r) (hne:r ≠ some g) (hl:g < w.heap.size) (j:Nat):w'.cell? ((⟨g,0,none⟩:Addr).add j)=w.cell? ((⟨g,0,none⟩:Addr).add j):=by
 rw [Addr.add_lit];exact World.cell?_of_block (a:=⟨g,0 + j,none⟩) (hg.block g hl (fun e=>hne e.symm))
section
variable {P:Program} (w:World)
end
set_option maxRecDepth 20000 in
set_option maxHeartbeats 4000000 in
theorem refPut_any {B:Nat} {W:World} {rb eb mb n:Nat} {D:DataW Value} {V:ByteArray→Value} {M:ByteArray→List Lay} (h:RLay B W mb n D V M) (hr:W.cell? ⟨rb,1,none⟩=some (.map (some mb))) (hBW:B≤W.heap.size) (e:Ev) (he:EvAt W eb e) (hx:e.item.size≤maxLen) (q v:Int)
  (hl:(M e.item).length≤1000) (hn:n < 1000000) :
  Calls Tryz.prog 216 #[.int .i64 q,.int .i64 v,.pointer (some ⟨rb,0,none⟩),.pointer (some ⟨eb,0,none⟩)] W fun r w'=>r = .returned (.tuple #[]) ∧
   ∃ nv,RLay B w' mb (n + 1) (D.put (keyB e.item) (.held nv)) (fun z=>if z=e.item then nv else V z) (fun z=>if z=e.item then M e.item ++ [⟨e.id,q,v⟩] else M z)∧(∀ k,nv.ownBlock=some k→W.heap.size≤k)∧W.grownBy w' (some mb):=by
 obtain ⟨i0,hi,hz0,hz1,hz2⟩:=info_parts Tryz.infoLay
 obtain ⟨id,item,kind,qty,price,ofI,day⟩:=e
 simp only at hx hl ⊢
 obtain ⟨W1,hW1⟩:∃ X,X=W.drew:=⟨_,rfl⟩
 have b1:Below W.heap.size W W1:=by rw [hW1];exact below_drew _
 have hH1:=h.below b1
 obtain ⟨ys,hys⟩:∃ ys,ys=M item:=⟨_,rfl⟩
 have h2:=hH1.lay item
 rw [← hys] at h2 hl
 rw [← hys]
 obtain ⟨ad2,n2,cp2,hv2⟩:=h2.slice
 have HLT:Hid (∀ k,(Value.slice ad2 ys.length cp2).ownBlock=some k→k < W.heap.size):=fun k hk=>(h.lay item).lt (by rw [hv2];rw [hv2] at h2;have:=h2.nilOf;rw [this];exact hk)
 have hlk:∀ m:UpK (Below W.heap.size) W1,(Instr.lookup 262 (.map (some mb)) (.string item) false).run Tryz.prog m.v = .ok (.slice ad2 n2 cp2) m.v:=fun m=>by rw [← hv2];exact (h.below (b1.trans m.h)).look item hx
 rw [hv2] at h2
 have hn2:=h2.nilOf
 subst hn2
 have HR:Hid (RLay B W mb n D V M):=h
 have H2:Hid (LayAt W1 (.slice ad2 ys.length cp2) ys):=h2
 have p0:∀ m:UpK (Below W.heap.size) W1,m.v.cell? ⟨rb,1,none⟩=some (.map (some mb)):=fun m=>below_cell (b1.trans m.h) hr
 have p1:∀ m:UpK (Below W.heap.size) W1,m.v.cell? ⟨eb,1,none⟩=some (.string item):=fun m=>below_cell (b1.trans m.h) he.c1
 have p2:∀ m:UpK (Below W.heap.size) W1,m.v.cell? ⟨eb,0,none⟩=some (.int .i64 id):=fun m=>below_cell (b1.trans m.h) he.c0
 have HB1:Hid (Below W.heap.size W W1):=b1
 have hsW1:W.heap.size≤W1.heap.size:=b1.size
 have HBW1:Hid (Below W.heap.size W1 W1):=Below.refl _ _
 have hU:∀ w:World,Nonempty (UpK (Below W.heap.size) w):=fun w=>⟨⟨w,Below.refl _ _⟩⟩
 have hA:=anyW_ne
 clear h h2 hys hv2 hr he hH1 b1
 go_enter Tryz.func216,Tryz.ntmps216
 go_wp2_with fail
 refine wp_region_preG (Below W.heap.size) [(false,0),(true,1),(false,2),(true,3),(false,5),(true,6),(false,7),(true,8),(true,9),(false,11),(true,12),(false,13),(false,14),(false,15)] [18] 5 (fun w=>Below.refl _ _) (fun a b c h1 h2=>h1.trans h2) (by kernel_rfl) (by kernel_rfl) ?_
 rw [← hW1]
 clear hW1
 repeat (first | refine preG_p rfl ?_ | refine preG_q rfl ?_);go_big_quiet_step (fail);refine wpQuiet_nil ?_
 refine preG_nil ?_
 clear p0 p1 p2 hlk
 rcases H2.out.form with ⟨e,e2⟩ | ⟨g,o,cap,e,hg,hc1,hc2⟩
 ·simp only [Value.slice.injEq] at e
  obtain ⟨rfl,_,rfl⟩:=e
  subst e2
  simp only [List.length_nil]
  refine anyG_all [4,16] (by kernel_rfl) ?_
  intro i hi2
  have hi3:i=4∨i=16:=by simpa using hi2
  clear hi2
  rcases hi3 with rfl | rfl
  ·refine eOpG_keep rfl ?_
   go_wp2_with fail
   obtain ⟨w2,hw2⟩:∃ X,X=W1.alloc (.cells #[] 299):=⟨_,rfl⟩
   have bw2:Below W1.heap.size W1 w2:=by rw [hw2];exact (Below.refl _ _).alloc (Nat.le_refl _) _
   have nw2:Below W.heap.size W1 w2:=bw2.mono hsW1
   have hsw2:W.heap.size≤w2.heap.size:=Nat.le_trans hsW1 bw2.size
   have HE:Hid (w2.ownsRow W.heap.size 299 3 (.slice (some ⟨W1.heap.size,0,none⟩) 0 0) 0 []):=by show World.ownsRow _ _ _ _ _ _ _;rw [hw2];exact own_low (own_emptyL W1) hsW1
   have HBw2:Hid (Below W.heap.size W1 w2):=HBW1.out.trans nw2
   have hyw2:W1.heap.size < w2.heap.size:=by rw [hw2];simp
   refine ⟨rfl,by rw [← hw2];exact nw2,?_⟩
   rw [← hw2]
   clear hw2
   refine anyG_all [10,16] (by kernel_rfl) ?_
   intro i hi2
   have hi3:i=10∨i=16:=by simpa using hi2
   clear hi2
   rcases hi3 with rfl | rfl
   ·refine eOpG_keep rfl ?_
    go_wp2_with fail
    refine ⟨rfl,Below.refl _ _,?_⟩
    refine anyG_all [16] (by kernel_rfl) ?_
    intro i hi2
    obtain rfl:i=16:=by simpa using hi2
    clear hi2
    refine eOpG_keep rfl ?_
    go_wp2_with fail
    obtain ⟨w4,hw4⟩:∃ X,X=w2.alloc (.cells #[.int .i64 id,.int .i64 q,.int .i64 v] 299):=⟨_,rfl⟩
    have bw4:Below w2.heap.size w2 w4:=by rw [hw4];exact (Below.refl _ _).alloc (Nat.le_refl _) _
    have nw4:Below W.heap.size w2 w4:=bw4.mono hsw2
    have hsw4:W.heap.size≤w4.heap.size:=Nat.le_trans hsw2 bw4.size
    have HY:Hid (∀ j u,(layC ⟨id,q,v⟩)[j]?=some u→w4.cell? ((⟨w2.heap.size,0,none⟩:Addr).add j)=some u):=by show ∀ j u,_→_;rw [hw4];exact cells_of_list rfl
    have HBw4:Hid (Below W.heap.size W1 w4):=HBw2.out.trans nw4
    have hyw4:w2.heap.size < w4.heap.size:=by rw [hw4];simp
    refine ⟨rfl,by rw [← hw4];exact nw4,?_⟩
    rw [← hw4]
    clear hw4
    have HE2:Hid (w4.ownsRow W.heap.size 299 3 (.slice (some ⟨W1.heap.size,0,none⟩) 0 0) 0 []):=own_below HE.out bw4 (Nat.le_refl _)
    clear HE
    have HE:=HE2
    clear HE2
    refine anyG_all [17] (by kernel_rfl) ?_
    intro i hi17
    obtain rfl:i=17:=by simpa using hi17
    clear hi17
    refine eOpG_keep rfl ?_
    refine wpList_append_own _ rfl _ _ 297 rfl W.heap.size 299 i0 layZ 3 24 Tryz.underlying297 hi hz0 hz1 hz2 rfl (by decide) _ _ _ rfl HE.out ⟨w2.heap.size,0,none⟩ 1 1 (layC ⟨id,q,v⟩) rfl rfl HY.out (layC_one _) (by unfold maxLen;omega) (by omega) hsw4 ?_
    intro nv w8 hown8 hgr8 _
    have n8:Below W.heap.size w4 w8:=(Below.refl _ _).grown hgr8 hsw4 (fun j hj=>(HE.out.lt j hj).1)
    have HB8:Hid (Below W.heap.size W1 w8):=HBw4.out.trans n8
    have hown8':w8.ownsRow W.heap.size 299 3 nv [(⟨id,q,v⟩:Lay)].length ([(⟨id,q,v⟩:Lay)].flatMap layC):=by
     simpa using hown8
    have HL8:Hid (LayAt w8 nv [⟨id,q,v⟩]):=lay_of_own hown8'
    have HF8:Hid (∀ k,nv.ownBlock=some k→W.heap.size≤k):=fun k hk=>(hown8'.lt k hk).1
    obtain ⟨a8,c8,hv8⟩:=own_lenN hown8'
    have hv9:nv = .slice a8 1 c8:=hv8
    clear hv8
    subst hv9
    clear hown8 hgr8 hown8'
    go_wp2_with fail
    refine ⟨rfl,n8,?_⟩
    refine anyG_all [18] (by kernel_rfl) ?_
    intro i hi18
    obtain rfl:i=18:=by simpa using hi18
    clear hi18
    refine eOpG_turn rfl (by decide) ?_
    have HBW:Hid (Below W.heap.size W w8):=HB1.out.trans HB8.out
    have HM8:Hid (w8.ownsMap Tryz.prog 9 heldE mb n D):=map_same HR.out.map (HBW.out.block _ HR.out.map.lt)
    have hnm:n < maxLen:=by unfold maxLen;omega
    refine wpList_mapUpdate_own _ rfl _ _ _ 262 rfl 9 297 law_strT Tryz.underlying262 heldE mb n D rfl HM8.out hnm _ _ (keyB item) rfl rfl (key_str item hx) (.held (.slice a8 1 c8)) [] rfl ?_
    intro w9 m9 g9
    have HRP:=HR.out.put hBW HBW.out item _ _ HL8.out HF8.out m9 g9
    have hgw:W.grownBy w9 (some mb):=⟨g9.os.trans HBW.out.os,g9.tape.trans HBW.out.tape,g9.output.trans HBW.out.output,Nat.le_trans HBW.out.size g9.size,fun j hj hne=>(g9.block j (Nat.lt_of_lt_of_le hj HBW.out.size) hne).trans (HBW.out.block j hj)⟩
    have HFIN:Hid (_∧_∧_):=And.intro HRP (And.intro HF8.out hgw)
    clear HRP hgw m9 g9
    go_wp2_with fail
    refine ⟨rfl,?_⟩
    refine anyG_nil (by kernel_rfl) ?_
    go_wp2
    go_end0
    exact ⟨rfl,_,HFIN.out.1,HFIN.out.2.1,HFIN.out.2.2⟩
   ·refine eOpG_keep rfl ?_
    go_wp2_with fail
    obtain ⟨w4,hw4⟩:∃ X,X=w2.alloc (.cells #[.int .i64 id,.int .i64 q,.int .i64 v] 299):=⟨_,rfl⟩
    have bw4:Below w2.heap.size w2 w4:=by rw [hw4];exact (Below.refl _ _).alloc (Nat.le_refl _) _
    have nw4:Below W.heap.size w2 w4:=bw4.mono hsw2
    have hsw4:W.heap.size≤w4.heap.size:=Nat.le_trans hsw2 bw4.size
    have HY:Hid (∀ j u,(layC ⟨id,q,v⟩)[j]?=some u→w4.cell? ((⟨w2.heap.size,0,none⟩:Addr).add j)=some u):=by show ∀ j u,_→_;rw [hw4];exact cells_of_list rfl
    have HBw4:Hid (Below W.heap.size W1 w4):=HBw2.out.trans nw4
    have hyw4:w2.heap.size < w4.heap.size:=by rw [hw4];simp
    refine ⟨rfl,by rw [← hw4];exact nw4,?_⟩
    rw [← hw4]
    clear hw4
    have HE2:Hid (w4.ownsRow W.heap.size 299 3 (.slice (some ⟨W1.heap.size,0,none⟩) 0 0) 0 []):=own_below HE.out bw4 (Nat.le_refl _)
    clear HE
    have HE:=HE2
    clear HE2
    refine anyG_all [10] (by kernel_rfl) ?_
    intro i hi2
    obtain rfl:i=10:=by simpa using hi2
    clear hi2
    refine eOpG_keep rfl ?_
    go_wp2_with fail
    refine ⟨rfl,Below.refl _ _,?_⟩
    refine anyG_all [17] (by kernel_rfl) ?_
    intro i hi17
    obtain rfl:i=17:=by simpa using hi17
    clear hi17
    refine eOpG_keep rfl ?_
    refine wpList_append_own _ rfl _ _ 297 rfl W.heap.size 299 i0 layZ 3 24 Tryz.underlying297 hi hz0 hz1 hz2 rfl (by decide) _ _ _ rfl HE.out ⟨w2.heap.size,0,none⟩ 1 1 (layC ⟨id,q,v⟩) rfl rfl HY.out (layC_one _) (by unfold maxLen;omega) (by omega) hsw4 ?_
    intro nv w8 hown8 hgr8 _
    have n8:Below W.heap.size w4 w8:=(Below.refl _ _).grown hgr8 hsw4 (fun j hj=>(HE.out.lt j hj).1)
    have HB8:Hid (Below W.heap.size W1 w8):=HBw4.out.trans n8
    have hown8':w8.ownsRow W.heap.size 299 3 nv [(⟨id,q,v⟩:Lay)].length ([(⟨id,q,v⟩:Lay)].flatMap layC):=by
     simpa using hown8
    have HL8:Hid (LayAt w8 nv [⟨id,q,v⟩]):=lay_of_own hown8'
    have HF8:Hid (∀ k,nv.ownBlock=some k→W.heap.size≤k):=fun k hk=>(hown8'.lt k hk).1
    obtain ⟨a8,c8,hv8⟩:=own_lenN hown8'
    have hv9:nv = .slice a8 1 c8:=hv8
    clear hv8
    subst hv9
    clear hown8 hgr8 hown8'
    go_wp2_with fail
    refine ⟨rfl,n8,?_⟩
    refine anyG_all [18] (by kernel_rfl) ?_
    intro i hi18
    obtain rfl:i=18:=by simpa using hi18
    clear hi18
    refine eOpG_turn rfl (by decide) ?_
    have HBW:Hid (Below W.heap.size W w8):=HB1.out.trans HB8.out
    have HM8:Hid (w8.ownsMap Tryz.prog 9 heldE mb n D):=map_same HR.out.map (HBW.out.block _ HR.out.map.lt)
    have hnm:n < maxLen:=by unfold maxLen;omega
    refine wpList_mapUpdate_own _ rfl _ _ _ 262 rfl 9 297 law_strT Tryz.underlying262 heldE mb n D rfl HM8.out hnm _ _ (keyB item) rfl rfl (key_str item hx) (.held (.slice a8 1 c8)) [] rfl ?_
    intro w9 m9 g9
    have HRP:=HR.out.put hBW HBW.out item _ _ HL8.out HF8.out m9 g9
    have hgw:W.grownBy w9 (some mb):=⟨g9.os.trans HBW.out.os,g9.tape.trans HBW.out.tape,g9.output.trans HBW.out.output,Nat.le_trans HBW.out.size g9.size,fun j hj hne=>(g9.block j (Nat.lt_of_lt_of_le hj HBW.out.size) hne).trans (HBW.out.block j hj)⟩
    have HFIN:Hid (_∧_∧_):=And.intro HRP (And.intro HF8.out hgw)
    clear HRP hgw m9 g9
    go_wp2_with fail
    refine ⟨rfl,?_⟩
    refine anyG_nil (by kernel_rfl) ?_
    go_wp2
    go_end0
    exact ⟨rfl,_,HFIN.out.1,HFIN.out.2.1,HFIN.out.2.2⟩
  ·refine eOpG_keep rfl ?_
   go_wp2_with fail
   obtain ⟨w2,hw2⟩:∃ X,X=W1.alloc (.cells #[.int .i64 id,.int .i64 q,.int .i64 v] 299):=⟨_,rfl⟩
   have bw2:Below W1.heap.size W1 w2:=by rw [hw2];exact (Below.refl _ _).alloc (Nat.le_refl _) _
   have nw2:Below W.heap.size W1 w2:=bw2.mono hsW1
   have hsw2:W.heap.size≤w2.heap.size:=Nat.le_trans hsW1 bw2.size
   have HY:Hid (∀ j u,(layC ⟨id,q,v⟩)[j]?=some u→w2.cell? ((⟨W1.heap.size,0,none⟩:Addr).add j)=some u):=by show ∀ j u,_→_;rw [hw2];exact cells_of_list rfl
   have HBw2:Hid (Below W.heap.size W1 w2):=HBW1.out.trans nw2
   have hyw2:W1.heap.size < w2.heap.size:=by rw [hw2];simp
   refine ⟨rfl,by rw [← hw2];exact nw2,?_⟩
   rw [← hw2]
   clear hw2
   refine anyG_all [4] (by kernel_rfl) ?_
   intro i hi2
   obtain rfl:i=4:=by simpa using hi2
   clear hi2
   refine eOpG_keep rfl ?_
   go_wp2_with fail
   obtain ⟨w4,hw4⟩:∃ X,X=w2.alloc (.cells #[] 299):=⟨_,rfl⟩
   have bw4:Below w2.heap.size w2 w4:=by rw [hw4];exact (Below.refl _ _).alloc (Nat.le_refl _) _
   have nw4:Below W.heap.size w2 w4:=bw4.mono hsw2
   have hsw4:W.heap.size≤w4.heap.size:=Nat.le_trans hsw2 bw4.size
   have HE:Hid (w4.ownsRow W.heap.size 299 3 (.slice (some ⟨w2.heap.size,0,none⟩) 0 0) 0 []):=by show World.ownsRow _ _ _ _ _ _ _;rw [hw4];exact own_low (own_emptyL w2) hsw2
   have HBw4:Hid (Below W.heap.size W1 w4):=HBw2.out.trans nw4
   have hyw4:w2.heap.size < w4.heap.size:=by rw [hw4];simp
   refine ⟨rfl,by rw [← hw4];exact nw4,?_⟩
   rw [← hw4]
   clear hw4
   have HY2:Hid (∀ j u,(layC ⟨id,q,v⟩)[j]?=some u→w4.cell? ((⟨W1.heap.size,0,none⟩:Addr).add j)=some u):=fun j u hj=>(below_add bw4 hyw2 j).trans (HY.out j u hj)
   clear HY
   have HY:=HY2
   clear HY2
   refine anyG_all [10] (by kernel_rfl) ?_
   intro i hi2
   obtain rfl:i=10:=by simpa using hi2
   clear hi2
   refine eOpG_keep rfl ?_
   go_wp2_with fail
   refine ⟨rfl,Below.refl _ _,?_⟩
   refine anyG_all [17] (by kernel_rfl) ?_
   intro i hi17
   obtain rfl:i=17:=by simpa using hi17
   clear hi17
   refine eOpG_keep rfl ?_
   refine wpList_append_own _ rfl _ _ 297 rfl W.heap.size 299 i0 layZ 3 24 Tryz.underlying297 hi hz0 hz1 hz2 rfl (by decide) _ _ _ rfl HE.out ⟨W1.heap.size,0,none⟩ 1 1 (layC ⟨id,q,v⟩) rfl rfl HY.out (layC_one _) (by unfold maxLen;omega) (by omega) hsw4 ?_
   intro nv w8 hown8 hgr8 _
   have n8:Below W.heap.size w4 w8:=(Below.refl _ _).grown hgr8 hsw4 (fun j hj=>(HE.out.lt j hj).1)
   have HB8:Hid (Below W.heap.size W1 w8):=HBw4.out.trans n8
   have hown8':w8.ownsRow W.heap.size 299 3 nv [(⟨id,q,v⟩:Lay)].length ([(⟨id,q,v⟩:Lay)].flatMap layC):=by
    simpa using hown8
   have HL8:Hid (LayAt w8 nv [⟨id,q,v⟩]):=lay_of_own hown8'
   have HF8:Hid (∀ k,nv.ownBlock=some k→W.heap.size≤k):=fun k hk=>(hown8'.lt k hk).1
   obtain ⟨a8,c8,hv8⟩:=own_lenN hown8'
   have hv9:nv = .slice a8 1 c8:=hv8
   clear hv8
   subst hv9
   clear hown8 hgr8 hown8'
   go_wp2_with fail
   refine ⟨rfl,n8,?_⟩
   refine anyG_all [18] (by kernel_rfl) ?_
   intro i hi18
   obtain rfl:i=18:=by simpa using hi18
   clear hi18
   refine eOpG_turn rfl (by decide) ?_
   have HBW:Hid (Below W.heap.size W w8):=HB1.out.trans HB8.out
   have HM8:Hid (w8.ownsMap Tryz.prog 9 heldE mb n D):=map_same HR.out.map (HBW.out.block _ HR.out.map.lt)
   have hnm:n < maxLen:=by unfold maxLen;omega
   refine wpList_mapUpdate_own _ rfl _ _ _ 262 rfl 9 297 law_strT Tryz.underlying262 heldE mb n D rfl HM8.out hnm _ _ (keyB item) rfl rfl (key_str item hx) (.held (.slice a8 1 c8)) [] rfl ?_
   intro w9 m9 g9
   have HRP:=HR.out.put hBW HBW.out item _ _ HL8.out HF8.out m9 g9
   have hgw:W.grownBy w9 (some mb):=⟨g9.os.trans HBW.out.os,g9.tape.trans HBW.out.tape,g9.output.trans HBW.out.output,Nat.le_trans HBW.out.size g9.size,fun j hj hne=>(g9.block j (Nat.lt_of_lt_of_le hj HBW.out.size) hne).trans (HBW.out.block j hj)⟩
   have HFIN:Hid (_∧_∧_):=And.intro HRP (And.intro HF8.out hgw)
   clear HRP hgw m9 g9
   go_wp2_with fail
   refine ⟨rfl,?_⟩
   refine anyG_nil (by kernel_rfl) ?_
   go_wp2
   go_end0
   exact ⟨rfl,_,HFIN.out.1,HFIN.out.2.1,HFIN.out.2.2⟩
 ·simp only [Value.slice.injEq] at e
  obtain ⟨rfl,_,rfl⟩:=e
  refine anyG_all [4,16] (by kernel_rfl) ?_
  intro i hi2
  have hi3:i=4∨i=16:=by simpa using hi2
  clear hi2
  rcases hi3 with rfl | rfl
  ·refine eOpG_keep rfl ?_
   go_wp2_with fail
   obtain ⟨w2,hw2⟩:∃ X,X=W1.alloc (.cells #[] 299):=⟨_,rfl⟩
   have bw2:Below W1.heap.size W1 w2:=by rw [hw2];exact (Below.refl _ _).alloc (Nat.le_refl _) _
   have nw2:Below W.heap.size W1 w2:=bw2.mono hsW1
   have hsw2:W.heap.size≤w2.heap.size:=Nat.le_trans hsW1 bw2.size
   have HE:Hid (w2.ownsRow W.heap.size 299 3 (.slice (some ⟨W1.heap.size,0,none⟩) 0 0) 0 []):=by show World.ownsRow _ _ _ _ _ _ _;rw [hw2];exact own_low (own_emptyL W1) hsW1
   have HBw2:Hid (Below W.heap.size W1 w2):=HBW1.out.trans nw2
   have hyw2:W1.heap.size < w2.heap.size:=by rw [hw2];simp
   refine ⟨rfl,by rw [← hw2];exact nw2,?_⟩
   rw [← hw2]
   clear hw2
   refine anyG_all [10,16] (by kernel_rfl) ?_
   intro i hi2
   have hi3:i=10∨i=16:=by simpa using hi2
   clear hi2
   rcases hi3 with rfl | rfl
   ·refine eOpG_keep rfl ?_
    refine wpList_append_own _ rfl _ _ 297 rfl W.heap.size 299 i0 layZ 3 24 Tryz.underlying297 hi hz0 hz1 hz2 rfl (by decide) _ _ _ rfl HE.out ⟨g,o,none⟩ ys.length cp2 (ys.flatMap layC) rfl (flat_len layC 3 layC_len ys) ((H2.out.kept fun k hk=>HBw2.out.block k (HLT.out k hk)).holds) (fun u hu=>lay_ones ys u hu) (by unfold maxLen;omega) (by omega) hsw2 ?_
    intro v10 w3 hown10 hgr10 _
    have nw3:Below W.heap.size w2 w3:=(Below.refl _ _).grown hgr10 hsw2 (fun j hj=>(HE.out.lt j hj).1)
    have hsw3:W.heap.size≤w3.heap.size:=Nat.le_trans hsw2 hgr10.size
    have HBw3:Hid (Below W.heap.size W1 w3):=HBw2.out.trans nw3
    rw [Nat.zero_add,List.nil_append] at hown10
    have HO:Hid (w3.ownsRow W.heap.size 299 3 v10 ys.length (ys.flatMap layC)):=hown10
    obtain ⟨a10,c10,hv10⟩:=own_lenN hown10
    subst hv10
    clear hown10 hgr10
    go_wp2_with fail
    refine ⟨rfl,nw3,?_⟩
    refine anyG_all [16] (by kernel_rfl) ?_
    intro i hi2
    obtain rfl:i=16:=by simpa using hi2
    clear hi2
    refine eOpG_keep rfl ?_
    go_wp2_with fail
    obtain ⟨w4,hw4⟩:∃ X,X=w3.alloc (.cells #[.int .i64 id,.int .i64 q,.int .i64 v] 299):=⟨_,rfl⟩
    have bw4:Below w3.heap.size w3 w4:=by rw [hw4];exact (Below.refl _ _).alloc (Nat.le_refl _) _
    have nw4:Below W.heap.size w3 w4:=bw4.mono hsw3
    have hsw4:W.heap.size≤w4.heap.size:=Nat.le_trans hsw3 bw4.size
    have HY:Hid (∀ j u,(layC ⟨id,q,v⟩)[j]?=some u→w4.cell? ((⟨w3.heap.size,0,none⟩:Addr).add j)=some u):=by show ∀ j u,_→_;rw [hw4];exact cells_of_list rfl
    have HBw4:Hid (Below W.heap.size W1 w4):=HBw3.out.trans nw4
    have hyw4:w3.heap.size < w4.heap.size:=by rw [hw4];simp
    refine ⟨rfl,by rw [← hw4];exact nw4,?_⟩
    rw [← hw4]
    clear hw4
    have HO2:Hid (w4.ownsRow W.heap.size 299 3 (.slice a10 ys.length c10) ys.length (ys.flatMap layC)):=own_below HO.out bw4 (Nat.le_refl _)
    clear HO
    have HO:=HO2
    clear HO2
    refine anyG_all [17] (by kernel_rfl) ?_
    intro i hi17
    obtain rfl:i=17:=by simpa using hi17
    clear hi17
    refine eOpG_keep rfl ?_
    refine wpList_append_own _ rfl _ _ 297 rfl W.heap.size 299 i0 layZ 3 24 Tryz.underlying297 hi hz0 hz1 hz2 rfl (by decide) _ _ _ rfl HO.out ⟨w3.heap.size,0,none⟩ 1 1 (layC ⟨id,q,v⟩) rfl rfl HY.out (layC_one _) (by unfold maxLen;omega) (by omega) hsw4 ?_
    intro nv w8 hown8 hgr8 _
    have n8:Below W.heap.size w4 w8:=(Below.refl _ _).grown hgr8 hsw4 (fun j hj=>(HO.out.lt j hj).1)
    have HB8:Hid (Below W.heap.size W1 w8):=HBw4.out.trans n8
    have hown8':w8.ownsRow W.heap.size 299 3 nv (ys ++ [(⟨id,q,v⟩:Lay)]).length ((ys ++ [(⟨id,q,v⟩:Lay)]).flatMap layC):=by
     rw [List.length_append,List.flatMap_append]
     simp only [List.flatMap_cons,List.flatMap_nil,List.append_nil,List.length_cons,List.length_nil]
     exact hown8
    have HL8:Hid (LayAt w8 nv (ys ++ [⟨id,q,v⟩])):=lay_of_own hown8'
    have HF8:Hid (∀ k,nv.ownBlock=some k→W.heap.size≤k):=fun k hk=>(hown8'.lt k hk).1
    obtain ⟨a8,c8,hv8⟩:=own_lenN hown8'
    have hv9:nv = .slice a8 (ys.length + 1) c8:=by rw [hv8,List.length_append];rfl
    clear hv8
    subst hv9
    clear hown8 hgr8 hown8'
    go_wp2_with fail
    refine ⟨rfl,n8,?_⟩
    refine anyG_all [18] (by kernel_rfl) ?_
    intro i hi18
    obtain rfl:i=18:=by simpa using hi18
    clear hi18
    refine eOpG_turn rfl (by decide) ?_
    have HBW:Hid (Below W.heap.size W w8):=HB1.out.trans HB8.out
    have HM8:Hid (w8.ownsMap Tryz.prog 9 heldE mb n D):=map_same HR.out.map (HBW.out.block _ HR.out.map.lt)
    have hnm:n < maxLen:=by unfold maxLen;omega
    refine wpList_mapUpdate_own _ rfl _ _ _ 262 rfl 9 297 law_strT Tryz.underlying262 heldE mb n D rfl HM8.out hnm _ _ (keyB item) rfl rfl (key_str item hx) (.held (.slice a8 (ys.length + 1) c8)) [] rfl ?_
    intro w9 m9 g9
    have HRP:=HR.out.put hBW HBW.out item _ _ HL8.out HF8.out m9 g9
    have hgw:W.grownBy w9 (some mb):=⟨g9.os.trans HBW.out.os,g9.tape.trans HBW.out.tape,g9.output.trans HBW.out.output,Nat.le_trans HBW.out.size g9.size,fun j hj hne=>(g9.block j (Nat.lt_of_lt_of_le hj HBW.out.size) hne).trans (HBW.out.block j hj)⟩
    have HFIN:Hid (_∧_∧_):=And.intro HRP (And.intro HF8.out hgw)
    clear HRP hgw m9 g9
    go_wp2_with fail
    refine ⟨rfl,?_⟩
    refine anyG_nil (by kernel_rfl) ?_
    go_wp2
    go_end0
    exact ⟨rfl,_,HFIN.out.1,HFIN.out.2.1,HFIN.out.2.2⟩
   ·refine eOpG_keep rfl ?_
    go_wp2_with fail
    obtain ⟨w3,hw3⟩:∃ X,X=w2.alloc (.cells #[.int .i64 id,.int .i64 q,.int .i64 v] 299):=⟨_,rfl⟩
    have bw3:Below w2.heap.size w2 w3:=by rw [hw3];exact (Below.refl _ _).alloc (Nat.le_refl _) _
    have nw3:Below W.heap.size w2 w3:=bw3.mono hsw2
    have hsw3:W.heap.size≤w3.heap.size:=Nat.le_trans hsw2 bw3.size
    have HY:Hid (∀ j u,(layC ⟨id,q,v⟩)[j]?=some u→w3.cell? ((⟨w2.heap.size,0,none⟩:Addr).add j)=some u):=by show ∀ j u,_→_;rw [hw3];exact cells_of_list rfl
    have HBw3:Hid (Below W.heap.size W1 w3):=HBw2.out.trans nw3
    have hyw3:w2.heap.size < w3.heap.size:=by rw [hw3];simp
    refine ⟨rfl,by rw [← hw3];exact nw3,?_⟩
    rw [← hw3]
    clear hw3
    have HE2:Hid (w3.ownsRow W.heap.size 299 3 (.slice (some ⟨W1.heap.size,0,none⟩) 0 0) 0 []):=own_below HE.out bw3 (Nat.le_refl _)
    clear HE
    have HE:=HE2
    clear HE2
    refine anyG_all [10] (by kernel_rfl) ?_
    intro i hi2
    obtain rfl:i=10:=by simpa using hi2
    clear hi2
    refine eOpG_keep rfl ?_
    refine wpList_append_own _ rfl _ _ 297 rfl W.heap.size 299 i0 layZ 3 24 Tryz.underlying297 hi hz0 hz1 hz2 rfl (by decide) _ _ _ rfl HE.out ⟨g,o,none⟩ ys.length cp2 (ys.flatMap layC) rfl (flat_len layC 3 layC_len ys) ((H2.out.kept fun k hk=>HBw3.out.block k (HLT.out k hk)).holds) (fun u hu=>lay_ones ys u hu) (by unfold maxLen;omega) (by omega) hsw3 ?_
    intro v10 w4 hown10 hgr10 _
    have nw4:Below W.heap.size w3 w4:=(Below.refl _ _).grown hgr10 hsw3 (fun j hj=>(HE.out.lt j hj).1)
    have hsw4:W.heap.size≤w4.heap.size:=Nat.le_trans hsw3 hgr10.size
    have HBw4:Hid (Below W.heap.size W1 w4):=HBw3.out.trans nw4
    rw [Nat.zero_add,List.nil_append] at hown10
    have HO:Hid (w4.ownsRow W.heap.size 299 3 v10 ys.length (ys.flatMap layC)):=hown10
    have HY2:Hid (∀ j u,(layC ⟨id,q,v⟩)[j]?=some u→w4.cell? ((⟨w2.heap.size,0,none⟩:Addr).add j)=some u):=fun j u hj=>(grown_add hgr10 (ne_blk (Nat.ne_of_lt hyw2)) hyw3 j).trans (HY.out j u hj)
    clear HY
    have HY:=HY2
    clear HY2
    obtain ⟨a10,c10,hv10⟩:=own_lenN hown10
    subst hv10
    clear hown10 hgr10
    go_wp2_with fail
    refine ⟨rfl,nw4,?_⟩
    refine anyG_all [17] (by kernel_rfl) ?_
    intro i hi17
    obtain rfl:i=17:=by simpa using hi17
    clear hi17
    refine eOpG_keep rfl ?_
    refine wpList_append_own _ rfl _ _ 297 rfl W.heap.size 299 i0 layZ 3 24 Tryz.underlying297 hi hz0 hz1 hz2 rfl (by decide) _ _ _ rfl HO.out ⟨w2.heap.size,0,none⟩ 1 1 (layC ⟨id,q,v⟩) rfl rfl HY.out (layC_one _) (by unfold maxLen;omega) (by omega) hsw4 ?_
    intro nv w8 hown8 hgr8 _
    have n8:Below W.heap.size w4 w8:=(Below.refl _ _).grown hgr8 hsw4 (fun j hj=>(HO.out.lt j hj).1)
    have HB8:Hid (Below W.heap.size W1 w8):=HBw4.out.trans n8
    have hown8':w8.ownsRow W.heap.size 299 3 nv (ys ++ [(⟨id,q,v⟩:Lay)]).length ((ys ++ [(⟨id,q,v⟩:Lay)]).flatMap layC):=by
     rw [List.length_append,List.flatMap_append]
     simp only [List.flatMap_cons,List.flatMap_nil,List.append_nil,List.length_cons,List.length_nil]
     exact hown8
    have HL8:Hid (LayAt w8 nv (ys ++ [⟨id,q,v⟩])):=lay_of_own hown8'
    have HF8:Hid (∀ k,nv.ownBlock=some k→W.heap.size≤k):=fun k hk=>(hown8'.lt k hk).1
    obtain ⟨a8,c8,hv8⟩:=own_lenN hown8'
    have hv9:nv = .slice a8 (ys.length + 1) c8:=by rw [hv8,List.length_append];rfl
    clear hv8
    subst hv9
    clear hown8 hgr8 hown8'
    go_wp2_with fail
    refine ⟨rfl,n8,?_⟩
    refine anyG_all [18] (by kernel_rfl) ?_
    intro i hi18
    obtain rfl:i=18:=by simpa using hi18
    clear hi18
    refine eOpG_turn rfl (by decide) ?_
    have HBW:Hid (Below W.heap.size W w8):=HB1.out.trans HB8.out
    have HM8:Hid (w8.ownsMap Tryz.prog 9 heldE mb n D):=map_same HR.out.map (HBW.out.block _ HR.out.map.lt)
    have hnm:n < maxLen:=by unfold maxLen;omega
    refine wpList_mapUpdate_own _ rfl _ _ _ 262 rfl 9 297 law_strT Tryz.underlying262 heldE mb n D rfl HM8.out hnm _ _ (keyB item) rfl rfl (key_str item hx) (.held (.slice a8 (ys.length + 1) c8)) [] rfl ?_
    intro w9 m9 g9
    have HRP:=HR.out.put hBW HBW.out item _ _ HL8.out HF8.out m9 g9
    have hgw:W.grownBy w9 (some mb):=⟨g9.os.trans HBW.out.os,g9.tape.trans HBW.out.tape,g9.output.trans HBW.out.output,Nat.le_trans HBW.out.size g9.size,fun j hj hne=>(g9.block j (Nat.lt_of_lt_of_le hj HBW.out.size) hne).trans (HBW.out.block j hj)⟩
    have HFIN:Hid (_∧_∧_):=And.intro HRP (And.intro HF8.out hgw)
    clear HRP hgw m9 g9
    go_wp2_with fail
    refine ⟨rfl,?_⟩
    refine anyG_nil (by kernel_rfl) ?_
    go_wp2
    go_end0
    exact ⟨rfl,_,HFIN.out.1,HFIN.out.2.1,HFIN.out.2.2⟩
  ·refine eOpG_keep rfl ?_
   go_wp2_with fail
   obtain ⟨w2,hw2⟩:∃ X,X=W1.alloc (.cells #[.int .i64 id,.int .i64 q,.int .i64 v] 299):=⟨_,rfl⟩
   have bw2:Below W1.heap.size W1 w2:=by rw [hw2];exact (Below.refl _ _).alloc (Nat.le_refl _) _
   have nw2:Below W.heap.size W1 w2:=bw2.mono hsW1
   have hsw2:W.heap.size≤w2.heap.size:=Nat.le_trans hsW1 bw2.size
   have HY:Hid (∀ j u,(layC ⟨id,q,v⟩)[j]?=some u→w2.cell? ((⟨W1.heap.size,0,none⟩:Addr).add j)=some u):=by show ∀ j u,_→_;rw [hw2];exact cells_of_list rfl
   have HBw2:Hid (Below W.heap.size W1 w2):=HBW1.out.trans nw2
   have hyw2:W1.heap.size < w2.heap.size:=by rw [hw2];simp
   refine ⟨rfl,by rw [← hw2];exact nw2,?_⟩
   rw [← hw2]
   clear hw2
   refine anyG_all [4] (by kernel_rfl) ?_
   intro i hi2
   obtain rfl:i=4:=by simpa using hi2
   clear hi2
   refine eOpG_keep rfl ?_
   go_wp2_with fail
   obtain ⟨w3,hw3⟩:∃ X,X=w2.alloc (.cells #[] 299):=⟨_,rfl⟩
   have bw3:Below w2.heap.size w2 w3:=by rw [hw3];exact (Below.refl _ _).alloc (Nat.le_refl _) _
   have nw3:Below W.heap.size w2 w3:=bw3.mono hsw2
   have hsw3:W.heap.size≤w3.heap.size:=Nat.le_trans hsw2 bw3.size
   have HE:Hid (w3.ownsRow W.heap.size 299 3 (.slice (some ⟨w2.heap.size,0,none⟩) 0 0) 0 []):=by show World.ownsRow _ _ _ _ _ _ _;rw [hw3];exact own_low (own_emptyL w2) hsw2
   have HBw3:Hid (Below W.heap.size W1 w3):=HBw2.out.trans nw3
   have hyw3:w2.heap.size < w3.heap.size:=by rw [hw3];simp
   refine ⟨rfl,by rw [← hw3];exact nw3,?_⟩
   rw [← hw3]
   clear hw3
   have HY2:Hid (∀ j u,(layC ⟨id,q,v⟩)[j]?=some u→w3.cell? ((⟨W1.heap.size,0,none⟩:Addr).add j)=some u):=fun j u hj=>(below_add bw3 hyw2 j).trans (HY.out j u hj)
   clear HY
   have HY:=HY2
   clear HY2
   refine anyG_all [10] (by kernel_rfl) ?_
   intro i hi2
   obtain rfl:i=10:=by simpa using hi2
   clear hi2
   refine eOpG_keep rfl ?_
   refine wpList_append_own _ rfl _ _ 297 rfl W.heap.size 299 i0 layZ 3 24 Tryz.underlying297 hi hz0 hz1 hz2 rfl (by decide) _ _ _ rfl HE.out ⟨g,o,none⟩ ys.length cp2 (ys.flatMap layC) rfl (flat_len layC 3 layC_len ys) ((H2.out.kept fun k hk=>HBw3.out.block k (HLT.out k hk)).holds) (fun u hu=>lay_ones ys u hu) (by unfold maxLen;omega) (by omega) hsw3 ?_
   intro v10 w4 hown10 hgr10 _
   have nw4:Below W.heap.size w3 w4:=(Below.refl _ _).grown hgr10 hsw3 (fun j hj=>(HE.out.lt j hj).1)
   have hsw4:W.heap.size≤w4.heap.size:=Nat.le_trans hsw3 hgr10.size
   have HBw4:Hid (Below W.heap.size W1 w4):=HBw3.out.trans nw4
   rw [Nat.zero_add,List.nil_append] at hown10
   have HO:Hid (w4.ownsRow W.heap.size 299 3 v10 ys.length (ys.flatMap layC)):=hown10
   have HY2:Hid (∀ j u,(layC ⟨id,q,v⟩)[j]?=some u→w4.cell? ((⟨W1.heap.size,0,none⟩:Addr).add j)=some u):=fun j u hj=>(grown_add hgr10 (ne_blk (Nat.ne_of_gt hyw2)) (Nat.lt_of_lt_of_le hyw2 bw3.size) j).trans (HY.out j u hj)
   clear HY
   have HY:=HY2
   clear HY2
   obtain ⟨a10,c10,hv10⟩:=own_lenN hown10
   subst hv10
   clear hown10 hgr10
   go_wp2_with fail
   refine ⟨rfl,nw4,?_⟩
   refine anyG_all [17] (by kernel_rfl) ?_
   intro i hi17
   obtain rfl:i=17:=by simpa using hi17
   clear hi17
   refine eOpG_keep rfl ?_
   refine wpList_append_own _ rfl _ _ 297 rfl W.heap.size 299 i0 layZ 3 24 Tryz.underlying297 hi hz0 hz1 hz2 rfl (by decide) _ _ _ rfl HO.out ⟨W1.heap.size,0,none⟩ 1 1 (layC ⟨id,q,v⟩) rfl rfl HY.out (layC_one _) (by unfold maxLen;omega) (by omega) hsw4 ?_
   intro nv w8 hown8 hgr8 _
   have n8:Below W.heap.size w4 w8:=(Below.refl _ _).grown hgr8 hsw4 (fun j hj=>(HO.out.lt j hj).1)
   have HB8:Hid (Below W.heap.size W1 w8):=HBw4.out.trans n8
   have hown8':w8.ownsRow W.heap.size 299 3 nv (ys ++ [(⟨id,q,v⟩:Lay)]).length ((ys ++ [(⟨id,q,v⟩:Lay)]).flatMap layC):=by
    rw [List.length_append,List.flatMap_append]
    simp only [List.flatMap_cons,List.flatMap_nil,List.append_nil,List.length_cons,List.length_nil]
    exact hown8
   have HL8:Hid (LayAt w8 nv (ys ++ [⟨id,q,v⟩])):=lay_of_own hown8'
   have HF8:Hid (∀ k,nv.ownBlock=some k→W.heap.size≤k):=fun k hk=>(hown8'.lt k hk).1
   obtain ⟨a8,c8,hv8⟩:=own_lenN hown8'
   have hv9:nv = .slice a8 (ys.length + 1) c8:=by rw [hv8,List.length_append];rfl
   clear hv8
   subst hv9
   clear hown8 hgr8 hown8'
   go_wp2_with fail
   refine ⟨rfl,n8,?_⟩
   refine anyG_all [18] (by kernel_rfl) ?_
   intro i hi18
   obtain rfl:i=18:=by simpa using hi18
   clear hi18
   refine eOpG_turn rfl (by decide) ?_
   have HBW:Hid (Below W.heap.size W w8):=HB1.out.trans HB8.out
   have HM8:Hid (w8.ownsMap Tryz.prog 9 heldE mb n D):=map_same HR.out.map (HBW.out.block _ HR.out.map.lt)
   have hnm:n < maxLen:=by unfold maxLen;omega
   refine wpList_mapUpdate_own _ rfl _ _ _ 262 rfl 9 297 law_strT Tryz.underlying262 heldE mb n D rfl HM8.out hnm _ _ (keyB item) rfl rfl (key_str item hx) (.held (.slice a8 (ys.length + 1) c8)) [] rfl ?_
   intro w9 m9 g9
   have HRP:=HR.out.put hBW HBW.out item _ _ HL8.out HF8.out m9 g9
   have hgw:W.grownBy w9 (some mb):=⟨g9.os.trans HBW.out.os,g9.tape.trans HBW.out.tape,g9.output.trans HBW.out.output,Nat.le_trans HBW.out.size g9.size,fun j hj hne=>(g9.block j (Nat.lt_of_lt_of_le hj HBW.out.size) hne).trans (HBW.out.block j hj)⟩
   have HFIN:Hid (_∧_∧_):=And.intro HRP (And.intro HF8.out hgw)
   clear HRP hgw m9 g9
   go_wp2_with fail
   refine ⟨rfl,?_⟩
   refine anyG_nil (by kernel_rfl) ?_
   go_wp2
   go_end0
   exact ⟨rfl,_,HFIN.out.1,HFIN.out.2.1,HFIN.out.2.2⟩
end Go.Proofs.YtdkhohlhdiekmaaGreatDoor
