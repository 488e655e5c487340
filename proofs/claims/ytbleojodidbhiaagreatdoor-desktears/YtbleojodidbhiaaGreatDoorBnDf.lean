/-  -/
import Derived.Test.YtbleojodidbhiaaGreatDoorBnKy
import Derived.Test.YtbleojodidbhiaaGreatDoorBnAt
namespace Go.Proofs.YtbleojodidbhiaaGreatDoor
open Go.RowKit Go.Maps
structure Chg where
 item:ByteArray
 q:Int
 v:Int
def chg0:Chg:=⟨⟨#[]⟩,0,0⟩
def chgV (c:Chg):Value:=.agg #[.string c.item,.int .i64 c.q,.int .i64 c.v]
theorem zero_chg (w:World):(zeroValue 166).run Tryz.prog w = .ok (chgV chg0) w:=by kernel_rfl
structure CMap (W:World) (mb n:Nat) (D:DataW Value) (f:ByteArray→Chg) (dom:ByteArray→Prop):Prop where
 map:W.ownsMap Tryz.prog 9 heldE mb n D
 at_:∀ x,D.atKey (keyB x) (.held (chgV chg0)) = .held (chgV (f x))
 has_:∀ x,has D (keyB x)=true ↔ dom x
section
variable {W w':World} {mb n:Nat} {D:DataW Value} {f:ByteArray→Chg} {dom:ByteArray→Prop}
theorem CMap.same (h:CMap W mb n D f dom) (e:w'.heap[mb]?=W.heap[mb]?):CMap w' mb n D f dom:=⟨map_same h.map e,h.at_,h.has_⟩
theorem CMap.below (h:CMap W mb n D f dom) (hb:Below W.heap.size W w'):CMap w' mb n D f dom:=h.same (hb.block _ h.map.lt)
theorem CMap.lt (h:CMap W mb n D f dom):mb < W.heap.size:=h.map.lt
theorem cmap_new (W:World):CMap (W.alloc (.map #[] 0)) W.heap.size 0 (.map []) (fun _=>chg0) (fun _=>False):=
 ⟨World.ownsMap_made W Tryz.prog 9 heldE,fun _=>rfl,fun x=>by simp [has_eq]⟩
theorem CMap.look (h:CMap W mb n D f dom) (x:ByteArray) (hx:x.size≤maxLen):(Instr.lookup 232 (.map (some mb)) (.string x) false).run Tryz.prog W = .ok (chgV (f x)) W:=by
 obtain ⟨v,ps,h1,h2⟩:=h.map.lookup law_strT Tryz.underlying232 (zero_chg W) (zd:=.held (chgV chg0)) (zp:=[]) rfl (key_str x hx)
 have h3:=heldE_inv h2
 rw [h.at_ x] at h3
 rw [h1,← held_inj h3]
theorem CMap.put (h:CMap W mb n D f dom) {x:ByteArray} {k:Chg} (hm:w'.ownsMap Tryz.prog 9 heldE mb (n + 1) (D.put (keyB x) (.held (chgV k)))) :
  CMap w' mb (n + 1) (D.put (keyB x) (.held (chgV k))) (fun z=>if z=x then k else f z) (fun z=>z=x∨dom z):=by
 have isM:IsMap D:=(h.map.canon law_strT).imp fun es ⟨e,_⟩=>e
 refine ⟨hm,fun z=>?_,fun z=>?_⟩
 ·by_cases e:z=x
  ·subst e;rw [if_pos rfl,atKey_put_same isM (keyB_key z)]
  ·rw [if_neg e,atKey_put_other (fun c=>e (keyB_inj c)),h.at_]
 ·by_cases e:z=x
  ·subst e;simp [has_put_same isM (keyB_key z)]
  ·rw [has_put_other (fun c=>e (keyB_inj c)),h.has_];simp [e]
end
end Go.Proofs.YtbleojodidbhiaaGreatDoor
namespace Go.Proofs.YtbleojodidbhiaaGreatDoor
open Go.RowKit Go.Maps Go.Shelf
structure SameBut (mb:Nat) (w w':World):Prop where
 size:w.heap.size≤w'.heap.size
 same:∀ j,j < w.heap.size→j ≠ mb→w'.heap[j]?=w.heap[j]?
theorem SameBut.refl (mb:Nat) (w:World):SameBut mb w w:=⟨Nat.le_refl _,fun _ _ _=>rfl⟩
theorem SameBut.cell {mb:Nat} {w w':World} (h:SameBut mb w w') {p:Addr} (hp:p.block < w.heap.size) (hn:p.block ≠ mb):w'.cell? p=w.cell? p:=World.cell?_of_block (h.same _ hp hn)
theorem SameBut.below {mb:Nat} {w w' w2:World} (h:SameBut mb w w') (hb:Below w'.heap.size w' w2):SameBut mb w w2:=
 ⟨Nat.le_trans h.size hb.size,fun j hj hn=>(hb.block j (Nat.lt_of_lt_of_le hj h.size)).trans (h.same j hj hn)⟩
theorem SameBut.grown {mb:Nat} {w w' w2:World} (h:SameBut mb w w') (hg:w'.grownBy w2 (some mb)):SameBut mb w w2:=
 ⟨Nat.le_trans h.size hg.size,fun j hj hn=>(hg.block j (Nat.lt_of_lt_of_le hj h.size) (fun e=>hn (by cases e;rfl))).trans (h.same j hj hn)⟩
theorem evUp_len (b:Bk) (n t:Int):(evUp b n t).length≤b.vs.length:=by
 have h1:=List.length_filter_le (fun e:Ev=>!decide (n < e.day)) (srt (asOf b (tOf b t)))
 rw [srt_len] at h1
 unfold asOf at h1
 rw [List.length_map] at h1
 have h2:=List.length_filter_le (isAt (tOf b t)) b.vs
 unfold evUp asOf
 omega
open Classical in
noncomputable def chgAt (S:List ByteArray) (M:Stks) (z:ByteArray):Chg:=if z ∈ S then ⟨z,sumQ (M z).ys,sumV (M z).ys⟩ else chg0
theorem chgAt_nil (M:Stks) (z:ByteArray):chgAt [] M z=chg0:=by unfold chgAt;rw [if_neg (by simp)]
theorem chgAt_snoc (S:List ByteArray) (M:Stks) (x z:ByteArray):chgAt (S ++ [x]) M z=if z=x then ⟨x,sumQ (M x).ys,sumV (M x).ys⟩ else chgAt S M z:=by
 unfold chgAt
 by_cases e:z=x
 ·subst e;rw [if_pos (by simp),if_pos rfl]
 ·rw [if_neg e]
  by_cases e2:z ∈ S
  ·rw [if_pos (by simp [e2]),if_pos e2]
  ·rw [if_neg (by simp [e,e2]),if_neg e2]
theorem CMap.ext {W:World} {mb n:Nat} {D:DataW Value} {f g:ByteArray→Chg} {dom dom':ByteArray→Prop} (h:CMap W mb n D f dom) (hf:∀ x,f x=g x) (hd:∀ x,dom x ↔ dom' x):CMap W mb n D g dom':=
 ⟨h.map,fun x=>by rw [h.at_,hf],fun x=>by rw [h.has_,hd]⟩
open Classical in
noncomputable def chgSub (S:List ByteArray) (N:Stks) (f:ByteArray→Chg) (z:ByteArray):Chg:=if z ∈ S then ⟨z,wrap64 ((f z).q - sumQ (N z).ys),wrap64 ((f z).v - sumV (N z).ys)⟩ else f z
theorem chgSub_nil (N:Stks) (f:ByteArray→Chg) (z:ByteArray):chgSub [] N f z=f z:=by unfold chgSub;rw [if_neg (by simp)]
theorem chgSub_not {S:List ByteArray} {N:Stks} {f:ByteArray→Chg} {z:ByteArray} (h:z ∉ S):chgSub S N f z=f z:=by unfold chgSub;rw [if_neg h]
theorem chgSub_snoc {S:List ByteArray} (N:Stks) (f:ByteArray→Chg) {x:ByteArray} (hx:x ∉ S) (z:ByteArray):chgSub (S ++ [x]) N f z=if z=x then ⟨x,wrap64 ((chgSub S N f x).q - sumQ (N x).ys),wrap64 ((chgSub S N f x).v - sumV (N x).ys)⟩ else chgSub S N f z:=by
 rw [chgSub_not hx]
 unfold chgSub
 by_cases e:z=x
 ·subst e;rw [if_pos (by simp),if_pos rfl]
 ·rw [if_neg e]
  by_cases e2:z ∈ S
  ·rw [if_pos (by simp [e2]),if_pos e2]
  ·rw [if_neg (by simp [e,e2]),if_neg e2]
noncomputable def stUp (b:Bk) (n t:Int):Stks:=goS stk00 (ordd (evUp b n t))
theorem stUp_ok (b:Bk) (n t:Int) (hl:b.vs.length≤1000) (x:ByteArray):StkOK 1000 (stUp b n t x):=by
 have h1:=(goS_ok (ordd (evUp b n t)) 0 stk00 (fun y=>stk0_ok 0) (ordd_rt _)).1 x
 exact h1.more (by have:=ordd_len (evUp b n t);have:=evUp_len b n t;omega)
theorem sumQ_nn:∀ (ys:List Lay),(∀ y ∈ ys,LayOK y)→0≤sumQ ys∧0≤sumV ys∧(ys ≠ []→1≤sumQ ys)
 | [],_=>by simp [sumQ,sumV]
 | y :: ys,h=>by
  have h1:=h y (List.mem_cons_self ..)
  have h2:=sumQ_nn ys (fun z hz=>h z (List.mem_cons_of_mem _ hz))
  unfold LayOK at h1
  simp only [sumQ,sumV]
  omega
theorem st_bd {s:Stk} (h:StkOK 1000 s):0≤sumQ s.ys∧sumQ s.ys≤100000000∧0≤sumV s.ys∧sumV s.ys≤100000000000000∧(s.ys ≠ []→1≤sumQ s.ys):=by
 have h1:=sumQ_nn s.ys h.ok
 have h2:=h.q
 have h3:=h.v
 exact ⟨h1.1,by omega,h1.2.1,by omega,h1.2.2⟩
theorem st_zero {s:Stk} (h:s.ys=[]):sumQ s.ys=0∧sumV s.ys=0:=by rw [h];exact ⟨rfl,rfl⟩
def dfQ (M N:Stks) (x:ByteArray):Int:=sumQ (M x).ys - sumQ (N x).ys
def dfV (M N:Stks) (x:ByteArray):Int:=sumV (M x).ys - sumV (N x).ys
def dfC (M N:Stks) (x:ByteArray):List Value:=[.string x,.int .i64 (dfQ M N x),.int .i64 (dfV M N x)]
def dfN (M N:Stks) (x:ByteArray):Bool:=!(decide (dfQ M N x=0) && decide (dfV M N x=0))
theorem dfN_iff (M N:Stks) (x:ByteArray):dfN M N x=true ↔ (dfQ M N x ≠ 0∨dfV M N x ≠ 0):=by
 unfold dfN
 by_cases h1:dfQ M N x=0 <;> by_cases h2:dfV M N x=0 <;> simp [h1,h2]
theorem w64 {x:Int} (h : -1000000000000000≤x) (h':x≤1000000000000000):wrap64 x=x:=IntWalk.wrap64_in _ ⟨by omega,by omega⟩
theorem chg_is {M N:Stks} {ks js:List ByteArray} (hM:∀ x,StkOK 1000 (M x)) (hN:∀ x,StkOK 1000 (N x)) (hk:Keys (fun x=>(M x).ys ≠ []) ks) (hj:Keys (fun x=>(N x).ys ≠ []) js) {z:ByteArray} (hz:z ∈ js∨z ∈ ks) :
  chgSub js N (chgAt ks M) z=⟨z,dfQ M N z,dfV M N z⟩:=by
 have m1:=st_bd (hM z)
 have n1:=st_bd (hN z)
 unfold dfQ dfV
 by_cases zj:z ∈ js
 ·unfold chgSub
  rw [if_pos zj]
  by_cases zk:z ∈ ks
  ·unfold chgAt
   rw [if_pos zk]
   simp only
   rw [w64 (by omega) (by omega),w64 (by omega) (by omega)]
  ·have hz0:=st_zero (s:=M z) (Classical.byContradiction fun c=>zk ((hk.mem z).2 c))
   unfold chgAt
   rw [if_neg zk]
   simp only [chg0]
   rw [w64 (by omega) (by omega),w64 (by omega) (by omega),hz0.1,hz0.2]
 ·have zk:z ∈ ks:=hz.resolve_left zj
  have hz0:=st_zero (s:=N z) (Classical.byContradiction fun c=>zj ((hj.mem z).2 c))
  rw [chgSub_not zj]
  unfold chgAt
  rw [if_pos zk,hz0.1,hz0.2,Int.sub_zero,Int.sub_zero]
theorem df_keys {M N:Stks} {ks js ms:List ByteArray} (hk:Keys (fun x=>(M x).ys ≠ []) ks) (hj:Keys (fun x=>(N x).ys ≠ []) js) (hm:Keys (fun z=>z ∈ js∨z ∈ ks) ms) :
  Keys (fun z=>dfQ M N z ≠ 0∨dfV M N z ≠ 0) (ms.filter (dfN M N)):=by
 refine ⟨hm.nodup.sublist List.filter_sublist,fun x=>?_,hm.sorted.sublist List.filter_sublist⟩
 rw [List.mem_filter,dfN_iff,hm.mem]
 refine ⟨fun h=>h.2,fun h=>⟨?_,h⟩⟩
 refine Classical.byContradiction fun c=>?_
 have c1:(M x).ys=[]:=Classical.byContradiction fun d=>c (Or.inr ((hk.mem x).2 d))
 have c2:(N x).ys=[]:=Classical.byContradiction fun d=>c (Or.inl ((hj.mem x).2 d))
 have e1:=st_zero c1
 have e2:=st_zero c2
 unfold dfQ dfV at h
 omega
theorem cmap_keys {W:World} {mb n:Nat} {D:DataW Value} {f:ByteArray→Chg} {dom:ByteArray→Prop} (h:CMap W mb n D f dom) {L:List ByteArray} (hd:∀ x,dom x→x ∈ L):Maps.size D≤L.length:=by
 obtain ⟨ks,hk,hm⟩:=keysD h.map h.has_ (List.Perm.refl (strKeys D))
 have h1:=congrArg List.length hm
 rw [List.length_mergeSort,List.length_map] at h1
 have h2:(strKeys D).length=Maps.size D:=by
  obtain ⟨es,rfl⟩:IsMap D:=(h.map.canon law_strT).imp fun es ⟨e,_⟩=>e
  simp [strKeys,Maps.size]
 have:=nodup_le ks L hk.nodup fun x hx=>hd x ((hk.mem x).1 hx)
 omega
def chgZ:Value:=.agg #[.string ⟨#[]⟩,.int .i64 0,.int .i64 0]
theorem chg_info:(Tryz.prog.info? 166).map (fun i=>(i.zero,i.size,i.bytes))=some (some chgZ,3,32):=by kernel_rfl
theorem dfC_one (M N:Stks) (p:ByteArray):∀ u ∈ dfC M N p,u.oneCell'=true:=by
 intro u hu
 simp only [dfC,List.mem_cons,List.not_mem_nil,or_false] at hu
 rcases hu with rfl | rfl | rfl <;> rfl
set_option maxRecDepth 20000 in
set_option maxHeartbeats 4000000 in
theorem rediff_any {B pb:Nat} {sv:Value} {b:Bk} {w:World} (h:BookAt w B pb sv b) (hl:b.vs.length≤1000) (n t1 t2:Int) (hw1:∀ e ∈ evUp b n t1,EvW e) (hw2:∀ e ∈ evUp b n t2,EvW e) :
  Calls Tryz.prog 121 #[.pointer (some ⟨pb,0,none⟩),.int .i64 n,.int .i64 t1,.int .i64 t2] w fun r w'=>∃ (u:Value) (cs:List ByteArray),r = .returned u∧Keys (fun z=>dfQ (stUp b n t2) (stUp b n t1) z ≠ 0∨dfV (stUp b n t2) (stUp b n t1) z ≠ 0) cs∧w'.ownsRow w.heap.size 166 3 u cs.length (cs.flatMap (dfC (stUp b n t2) (stUp b n t1)))∧Below w.heap.size w w':=by
 have hmm:=@run_makeMap Tryz.prog
 obtain ⟨i0,hi,hz0,hz1,hz2⟩:=info_parts chg_info
 obtain ⟨W0,hW0⟩:∃ W,W=w.alloc (.map #[] 0):=⟨_,rfl⟩
 have hb0:Below w.heap.size w W0:=by rw [hW0];exact (Below.refl _ _).alloc (Nat.le_refl _) _
 have hm0:CMap W0 w.heap.size 0 (.map []) (fun _=>chg0) (fun _=>False):=by rw [hW0];exact cmap_new w
 have hat:=reat_any (h.below hb0) hl n t2 hw2
 have HW0:=hidE hW0
 have HH:=hidE h
 have HWE:=hidE hw1
 clear hW0 h
 go_enter Tryz.func121,Tryz.ntmps121
 go_wp2_with fail
 rw [← HW0.out]
 refine hat.mono ?_
 rintro r w1 ⟨v1,ks,rfl,hks,hown1,hb1⟩
 obtain ⟨ad1,cp1,hv1⟩:=own_lenN hown1
 subst hv1
 clear hat
 obtain ⟨M,hM⟩:∃ M,M=goS stk00 (ordd (evUp b n t2)):=⟨_,rfl⟩
 have HMU:Hid (stUp b n t2=M):=hM.symm
 have HOKM:Hid (∀ x,StkOK 1000 (M x)):=fun x=>by rw [← HMU.out];exact stUp_ok b n t2 hl x
 have hkl:ks.length≤10000:=by
  have h1:=keys_len hks
  have h2:=evUp_len b n t2
  omega
 have hisz:∀ x ∈ ks,x.size≤maxLen:=fun x hx=>by
  obtain ⟨e,he,rfl⟩:=some_item ((hks.mem x).1 hx)
  have h1:=(ordd_rt _ e he).1.1.2
  rw [eba_len] at h1
  unfold maxLen;omega
 rw [← hM] at hown1 hks
 have hs0:W0.heap.size=w.heap.size + 1:=by rw [HW0.out];simp
 have hs1:=hb1.size
 have hmb:w.heap.size < w1.heap.size:=by omega
 have HISZ:=hidE hisz
 have HKS:=hidE hks
 have HO1:=hidE hown1
 have HM1:Hid (CMap w1 w.heap.size 0 (.map []) (chgAt (ks.take 0) M) (fun z=>z ∈ ks.take 0)):=by
  have h1:=hm0.below hb1
  exact ⟨h1.map,fun x=>by rw [h1.at_,List.take_zero,chgAt_nil],fun x=>by simp [h1.has_]⟩
 have HS0:=hidE hs0
 have HB1:Hid (Below w.heap.size w w1):=hb0.trans (hb1.mono hb0.size)
 clear hisz hks hown1 hm0 hb1 hb0 hs0 hM hs1
 go_wp2
 go_loopw [25] (fun i wr=>∃ (k m:Nat) (D:DataW Value),k≤ks.length∧i = .int .i64 k∧m≤k∧Hid (CMap wr w.heap.size m D (chgAt (ks.take k) M) (fun z=>z ∈ ks.take k))∧Hid (Below w.heap.size w wr)∧Hid (SameBut w.heap.size w1 wr)) (fun i _=>ks.length - (intOf i).toNat)
 case atStart=>exact ⟨0,0,_,Nat.zero_le _,rfl,Nat.le_refl _,HM1,HB1,SameBut.refl _ _⟩
 case round=>
  obtain ⟨k,m,D,hk,rfl,hm,HM,HB,HSB⟩:=hrel
  have hsb:=HSB.out.size
  by_cases hlt:k < ks.length
  ·rcases own_form HO1.out with ⟨_,e2,_⟩ | ⟨g,cp,e1,hgB,hgl,_⟩
   ·rw [e2] at hlt;exact absurd hlt (Nat.not_lt_zero _)
   ·simp only [Value.slice.injEq] at e1
    obtain ⟨rfl,_,rfl⟩:=e1
    have hgm:g ≠ w.heap.size:=by have:=HS0.out;omega
    obtain ⟨x,hx⟩:∃ x,x=ks[k]:=⟨_,rfl⟩
    have q0:=(HSB.out.cell (p:=⟨g,k * 3 + 0,none⟩) hgl hgm).trans (own_cell (m:=3) (fun _=>rfl) HO1.out k 0 hlt (by omega)).1
    have q1:=(HSB.out.cell (p:=⟨g,k * 3 + 1,none⟩) hgl hgm).trans (own_cell (m:=3) (fun _=>rfl) HO1.out k 1 hlt (by omega)).1
    have q2:=(HSB.out.cell (p:=⟨g,k * 3 + 2,none⟩) hgl hgm).trans (own_cell (m:=3) (fun _=>rfl) HO1.out k 2 hlt (by omega)).1
    rw [← hx] at q0 q1 q2
    simp only [holdC,List.getElem?_cons_zero,List.getElem?_cons_succ,Nat.add_zero] at q0 q1 q2
    have hxs:x.size≤maxLen:=HISZ.out x (by rw [hx];exact List.getElem_mem hlt)
    have HTK:Hid (ks.take (k + 1)=ks.take k ++ [x]):=by show _=_;rw [hx];exact List.take_succ_eq_append_getElem hlt
    obtain ⟨W1,hW1⟩:∃ W,W=wr.alloc (.cells #[.string x,.int .i64 (sumQ (M x).ys),.int .i64 (sumV (M x).ys)] 162):=⟨_,rfl⟩
    have hb2:Below wr.heap.size wr W1:=by rw [hW1];exact (Below.refl _ _).alloc (Nat.le_refl _) _
    have HM1':=hidE (HM.out.below hb2)
    have HB2:=hidE hb2
    have HW1:=hidE hW1
    have hsw:=HB.out.size
    have hmw:w.heap.size < wr.heap.size:=HM.out.lt
    clear hW1 hb2 hx
    go_wp2_with (first
     | (at_mapUpdate;refine wpList_mapUpdate_own _ rfl _ _ _ 232 rfl 9 166 law_strT Tryz.underlying232 heldE w.heap.size m D rfl (by rw [← HW1.out];exact HM1'.out.map) (by unfold maxLen;omega) _ _ (keyB x) rfl rfl (key_str x hxs) (.held (chgV ⟨x,sumQ (M x).ys,sumV (M x).ys⟩)) [] rfl ?_)
     | go_in)
    intro w2 hm2 hg2
    rw [← HW1.out] at hg2
    have HM3:Hid (CMap w2 w.heap.size (m + 1) _ (chgAt (ks.take (k + 1)) M) (fun z=>z ∈ ks.take (k + 1))):=(HM1'.out.put hm2).ext (fun z=>by rw [HTK.out,chgAt_snoc]) (fun z=>by rw [HTK.out];simp [or_comm])
    have HB3:Hid (Below w.heap.size w w2):=(HB.out.trans (HB2.out.mono hsw)).grown hg2 (by have:=HB2.out.size;omega) (fun j e=>by cases e;exact Nat.le_refl _)
    have HSB3:Hid (SameBut w.heap.size w1 w2):=(HSB.out.below HB2.out).grown hg2
    clear hm2 hg2 q0 q1 q2
    go_wp2
    go_roundw
    case rel=>exact ⟨k + 1,m + 1,_,by omega,by go_num,by omega,HM3,HB3,HSB3⟩
    case measure=>simp [intOf];omega
  ·have hk2:k=ks.length:=by omega
   subst hk2
   rw [List.take_length] at HM
   have hat:=reat_any (HH.out.below HB.out) hl n t1 HWE.out
   go_wp2_with fail
   refine hat.mono ?_
   rintro r w3 ⟨v3,js,rfl,hjs,hown3,hb3⟩
   obtain ⟨ad3,cp3,hv3⟩:=own_lenN hown3
   subst hv3
   clear hat
   have hB3:Below w.heap.size w w3:=HB.out.trans (hb3.mono HB.out.size)
   have HM3:=hidE (HM.out.below hb3)
   have HB3:=hidE hB3
   have hs3:=hb3.size
   have HO3:=hidE hown3
   have HJS:=hidE hjs
   have hmw:w.heap.size < wr.heap.size:=HM.out.lt
   clear hB3 hb3 hown3 hjs
   obtain ⟨N,hN⟩:∃ N,N=goS stk00 (ordd (evUp b n t1)):=⟨_,rfl⟩
   have HNU:Hid (stUp b n t1=N):=hN.symm
   have HOKN:Hid (∀ x,StkOK 1000 (N x)):=fun x=>by rw [← HNU.out];exact stUp_ok b n t1 hl x
   have hjl:js.length≤10000:=by
    have h1:=keys_len HJS.out
    have h2:=evUp_len b n t1
    omega
   have hjsz:∀ x ∈ js,x.size≤maxLen:=fun x hx=>by
    obtain ⟨e,he,rfl⟩:=some_item ((HJS.out.mem x).1 hx)
    have h1:=(ordd_rt _ e he).1.1.2
    rw [eba_len] at h1
    unfold maxLen;omega
   rw [← hN] at HO3 HJS
   have HJSZ:=hidE hjsz
   have HNN:=hidE hN
   obtain ⟨F,hF⟩:∃ F,F=chgAt ks M:=⟨_,rfl⟩
   rw [← hF] at HM3
   have HFF:=hidE hF
   have HM4:Hid (CMap w3 w.heap.size m D (chgSub (js.take 0) N F) (fun z=>z ∈ js.take 0∨z ∈ ks)):=HM3.out.ext (fun z=>by rw [List.take_zero,chgSub_nil]) (fun z=>by simp)
   clear hN hjsz hF HM3
   go_wp2
   go_loopw [45] (fun i wq=>∃ (k m:Nat) (D:DataW Value),k≤js.length∧i = .int .i64 k∧m≤ks.length + k∧Hid (CMap wq w.heap.size m D (chgSub (js.take k) N F) (fun z=>z ∈ js.take k∨z ∈ ks))∧Hid (Below w.heap.size w wq)∧Hid (SameBut w.heap.size w3 wq)) (fun i _=>js.length - (intOf i).toNat)
   case atStart=>exact ⟨0,m,_,Nat.zero_le _,rfl,hm,HM4,HB3,SameBut.refl _ _⟩
   case round=>
    obtain ⟨k,m,D,hk,rfl,hm,HM,HB,HSB⟩:=hrel
    have hsb:=HSB.out.size
    by_cases hlt:k < js.length
    ·rcases own_form HO3.out with ⟨_,e2,_⟩ | ⟨g,cp,e1,hgB,hgl,_⟩
     ·rw [e2] at hlt;exact absurd hlt (Nat.not_lt_zero _)
     ·simp only [Value.slice.injEq] at e1
      obtain ⟨rfl,_,rfl⟩:=e1
      have hgm:g ≠ w.heap.size:=by omega
      obtain ⟨x,hx⟩:∃ x,x=js[k]:=⟨_,rfl⟩
      have q0:=(HSB.out.cell (p:=⟨g,k * 3 + 0,none⟩) hgl hgm).trans (own_cell (m:=3) (fun _=>rfl) HO3.out k 0 hlt (by omega)).1
      have q1:=(HSB.out.cell (p:=⟨g,k * 3 + 1,none⟩) hgl hgm).trans (own_cell (m:=3) (fun _=>rfl) HO3.out k 1 hlt (by omega)).1
      have q2:=(HSB.out.cell (p:=⟨g,k * 3 + 2,none⟩) hgl hgm).trans (own_cell (m:=3) (fun _=>rfl) HO3.out k 2 hlt (by omega)).1
      rw [← hx] at q0 q1 q2
      simp only [holdC,List.getElem?_cons_zero,List.getElem?_cons_succ,Nat.add_zero] at q0 q1 q2
      have hxs:x.size≤maxLen:=HJSZ.out x (by rw [hx];exact List.getElem_mem hlt)
      have HTK:Hid (js.take (k + 1)=js.take k ++ [x]):=by show _=_;rw [hx];exact List.take_succ_eq_append_getElem hlt
      have HNI:Hid (x ∉ js.take k):=by
       have h1:=HJS.out.nodup.sublist (List.take_sublist (k + 1) js)
       rw [HTK.out] at h1
       exact fun c=>(List.nodup_append.1 h1).2.2 x c x (by simp) rfl
      obtain ⟨cc,hcc⟩:∃ c,c=chgSub (js.take k) N F x:=⟨_,rfl⟩
      have HCC:=hidE hcc
      obtain ⟨W1,hW1⟩:∃ W,W=wr.alloc (.cells #[.string x,.int .i64 (sumQ (N x).ys),.int .i64 (sumV (N x).ys)] 162):=⟨_,rfl⟩
      have hb4:Below wr.heap.size wr W1:=by rw [hW1];exact (Below.refl _ _).alloc (Nat.le_refl _) _
      have lk:=(HM.out.below hb4).look x hxs
      rw [← hcc] at lk
      obtain ⟨ci,cq,cv⟩:=cc
      obtain ⟨W2,hW2⟩:∃ W,W=W1.alloc (.cells #[.string ci,.int .i64 cq,.int .i64 cv] 166):=⟨_,rfl⟩
      have hb5:Below wr.heap.size wr W2:=by rw [hW2];exact hb4.alloc hb4.size _
      have HM5:=hidE (HM.out.below hb5)
      have HB5:=hidE hb5
      have HW2:=hidE hW2
      have HW1:=hidE hW1
      have hsw:=HB.out.size
      have hmw2:w.heap.size < wr.heap.size:=HM.out.lt
      unfold chgV at lk
      simp only at lk
      rw [hW1] at lk
      clear hW1 hW2 hb4 hb5 hx hcc
      go_wp2_with (first
       | (at_mapUpdate;refine wpList_mapUpdate_own _ rfl _ _ _ 232 rfl 9 166 law_strT Tryz.underlying232 heldE w.heap.size m D rfl (by rw [← HW1.out,← HW2.out];exact HM5.out.map) (by unfold maxLen;omega) _ _ (keyB x) rfl rfl (key_str x hxs) (.held (chgV ⟨x,wrap64 (cq - sumQ (N x).ys),wrap64 (cv - sumV (N x).ys)⟩)) [] rfl ?_)
       | go_in)
      intro w5 hm5 hg5
      rw [← HW1.out,← HW2.out] at hg5
      have HM6:Hid (CMap w5 w.heap.size (m + 1) _ (chgSub (js.take (k + 1)) N F) (fun z=>z ∈ js.take (k + 1)∨z ∈ ks)):=(HM5.out.put hm5).ext (fun z=>by rw [HTK.out,chgSub_snoc N F HNI.out,← HCC.out]) (fun z=>by rw [HTK.out];rw [List.mem_append,List.mem_singleton];exact ⟨fun h=>h.elim (fun a=>Or.inl (Or.inr a)) (fun a=>a.elim (fun a=>Or.inl (Or.inl a)) Or.inr),fun h=>h.elim (fun a=>a.elim (fun a=>Or.inr (Or.inl a)) Or.inl) (fun a=>Or.inr (Or.inr a))⟩)
      have HB6:Hid (Below w.heap.size w w5):=(HB.out.trans (HB5.out.mono hsw)).grown hg5 (by have:=HB5.out.size;omega) (fun j e=>by cases e;exact Nat.le_refl _)
      have HSB6:Hid (SameBut w.heap.size w3 w5):=(HSB.out.below HB5.out).grown hg5
      clear hm5 hg5 q0 q1 q2 lk
      go_wp2
      go_roundw
      case rel=>exact ⟨k + 1,m + 1,_,by omega,by go_num,by omega,HM6,HB6,HSB6⟩
      case measure=>simp [intOf];omega
    ·have hk2:k=js.length:=by omega
     subst hk2
     rw [List.take_length] at HM
     have hml:Maps.size D≤js.length + ks.length:=by
      have h1:=cmap_keys HM.out (L:=js ++ ks) (fun x hx=>List.mem_append.2 hx)
      rw [List.length_append] at h1
      exact h1
     have hK:=callsIn_wide.1 (Tryz.maps_KeysC (some w.heap.size) wr)
     have hSo:=callsIn_wide.1 (Tryz.sorted_keysC w.heap.size m D heldE wr HM.out.map (by unfold maxLen;omega) (by omega))
     have HK:=hidE hK
     have HSo:=hidE hSo
     have hsw:=HB.out.size
     clear hK hSo hml
     go_wp2_with fail
     refine HK.out.mono ?_
     rintro e w4 ⟨rfl,rfl⟩
     go_wp2_with fail
     refine HSo.out.mono ?_
     rintro e w5 ⟨kv,ss,rfl,hS,hrow,_,hb5⟩
     obtain ⟨ms,hms,hmm2⟩:=keysD HM.out.map HM.out.has_ hS
     rw [hmm2] at hrow
     have hsl:ss.length=ms.length:=by
      have h1:=congrArg List.length hmm2
      rw [List.length_mergeSort,List.length_map] at h1
      exact h1
     rw [hsl] at hrow
     have hrow2:w5.ownsRow (wr.heap.size + 1) 9 1 kv ms.length (ms.flatMap fun x=>[Value.string x]):=by
      rw [enc_flatK ms] at hrow
      simpa using hrow
     have hmn:ms.length≤20000:=by
      have h1:=nodup_le ms (js ++ ks) hms.nodup fun x hx=>List.mem_append.2 ((hms.mem x).1 hx)
      rw [List.length_append] at h1
      omega
     have hisz2:∀ x ∈ ms,x.size≤maxLen:=fun x hx=>by
      rcases (hms.mem x).1 hx with h1 | h1
      ·exact HJSZ.out x h1
      ·exact HISZ.out x h1
     have HCI:Hid (∀ x ∈ ms,chgSub js N F x=⟨x,dfQ M N x,dfV M N x⟩):=fun x hx=>by
      rw [HFF.out]
      exact chg_is HOKM.out HOKN.out HKS.out HJS.out ((hms.mem x).1 hx)
     have HKK:Hid (Keys (fun z=>dfQ M N z ≠ 0∨dfV M N z ≠ 0) (ms.filter (dfN M N))):=df_keys HKS.out HJS.out hms
     have hb45:Below wr.heap.size wr w5:=((Below.refl _ _).alloc (Nat.le_refl _) (.cells #[.map (some w.heap.size)] 232)).trans (hb5.mono (by simp))
     have HM5:=hidE (HM.out.below hb45)
     have HB5:Hid (Below w.heap.size w w5):=HB.out.trans (hb45.mono hsw)
     have HRW:=hidE hrow2
     have HIS2:=hidE hisz2
     have hs5:=HB5.out.size
     have hform:=own_form hrow2
     clear hS hrow hb5 hmm2 hsl hms HK HSo hb45 hisz2 HM HB HSB HB1 HM1 HM4 HB3 HO1 HO3
     obtain ⟨adk,nk,cpk,hkv⟩:∃ ad n cap,kv = .slice ad n cap∧n=ms.length:=by
      rcases hform with ⟨e,e2,_⟩ | ⟨g,c,e,_⟩
      ·exact ⟨none,0,0,e,e2.symm⟩
      ·exact ⟨_,_,_,e,rfl⟩
     obtain ⟨rfl,hnk⟩:=hkv
     subst hnk
     clear hform hrow2
     go_wp2
     go_loopw [15,74] (fun u i wq=>∃ k:Nat,k≤ms.length∧i = .int .i64 k∧Hid (wq.ownsRow w5.heap.size 166 3 u ((ms.take k).filter (dfN M N)).length (((ms.take k).filter (dfN M N)).flatMap (dfC M N)))∧Hid (Below w5.heap.size w5 wq)) (fun _ i _=>ms.length - (intOf i).toNat)
     case atStart=>exact ⟨0,Nat.zero_le _,rfl,World.ownsRow_nil _ _ _ _,Below.refl _ _⟩
     case round=>
      obtain ⟨k,hk,rfl,HO,HBW⟩:=hrel
      have hsww:=HBW.out.size
      by_cases hlt:k < ms.length
      ·obtain ⟨ad3,n3,cp3,hv3⟩:=own_lenK HO.out
       subst hv3
       rcases own_form HRW.out with ⟨_,e2,_⟩ | ⟨g,cp,e1,_,hgl,_⟩
       ·rw [e2] at hlt;exact absurd hlt (Nat.not_lt_zero _)
       ·simp only [Value.slice.injEq] at e1
        obtain ⟨rfl,_,rfl⟩:=e1
        have q0:=(own_cell (m:=1) (fun _=>rfl) HRW.out k 0 hlt (by omega)).1
        obtain ⟨x,hx⟩:∃ x,x=ms[k]:=⟨_,rfl⟩
        rw [← hx] at q0
        have hxm:x ∈ ms:=by rw [hx];exact List.getElem_mem hlt
        have hxs:x.size≤maxLen:=HIS2.out x hxm
        simp only [List.getElem?_cons_zero,Nat.mul_one,Nat.add_zero] at q0
        have q1:wr.cell? ⟨g,k,none⟩=some (.string x):=(HBW.out.cell (p:=⟨g,k,none⟩) hgl).trans q0
        have lk:=(HM5.out.below HBW.out).look x hxs
        rw [HCI.out x hxm] at lk
        unfold chgV at lk
        simp only at lk
        have HTK:Hid ((ms.take (k + 1)).filter (dfN M N)=(ms.take k).filter (dfN M N) ++ (if dfN M N x=true then [x] else [])):=by
         show _=_
         rw [List.take_succ_eq_append_getElem hlt,← hx,List.filter_append]
         congr 1
         by_cases c:dfN M N x=true
         ·rw [if_pos c,List.filter_cons_of_pos c];rfl
         ·rw [if_neg c,List.filter_cons_of_neg c];rfl
        have htl:((ms.take k).filter (dfN M N)).length≤k:=by
         have h1:=List.length_filter_le (dfN M N) (ms.take k)
         rw [List.length_take] at h1
         omega
        have HNI:=dfN_iff M N x
        have HDC:Hid (dfC M N x=[.string x,.int .i64 (dfQ M N x),.int .i64 (dfV M N x)]):=rfl
        obtain ⟨dq,hdq⟩:∃ d,d=dfQ M N x:=⟨_,rfl⟩
        obtain ⟨dv,hdv⟩:∃ d,d=dfV M N x:=⟨_,rfl⟩
        rw [← hdq,← hdv] at lk HNI HDC
        obtain ⟨fl,hfl⟩:∃ f,f=(ms.take k).filter (dfN M N):=⟨_,rfl⟩
        rw [← hfl] at HTK htl HO
        clear hx q0 hdq hdv hfl
        obtain ⟨W1,hW1⟩:∃ W,W=wr.alloc (.cells #[.string x,.int .i64 dq,.int .i64 dv] 166):=⟨_,rfl⟩
        have hB1:Below w5.heap.size w5 W1:=by rw [hW1];exact HBW.out.alloc hsww _
        have hown1:W1.ownsRow w5.heap.size 166 3 (.slice ad3 n3 cp3) fl.length (fl.flatMap (dfC M N)):=by rw [hW1];exact HO.out.alloc _
        have hs1:=hB1.size
        have HW1:=hidE hW1
        have HB1':=hidE hB1
        have HO1':=hidE hown1
        clear hW1 hB1 hown1
        by_cases hnz:dq ≠ 0∨dv ≠ 0
        ·rw [if_pos (HNI.2 hnz)] at HTK
         have hcc:dq ≠ 0∨(dq=0∧dv ≠ 0):=by
          by_cases c:dq=0
          ·exact Or.inr ⟨c,hnz.resolve_left (fun d=>d c)⟩
          ·exact Or.inl c
         clear HNI hnz
         rcases hcc with hc | ⟨rfl,hc⟩
         all_goals
          go_wp2_with (first
           | (at_builtin;refine wpList_append_new _ rfl _ _ 164 rfl w5.heap.size 166 i0 chgZ 3 32 Tryz.underlying164 hi hz0 hz1 hz2 rfl (by decide) (.slice ad3 n3 cp3) _ _ rfl ((HO.out.alloc _).alloc _) ⟨wr.heap.size + 1,0,none⟩ 1 1 (dfC M N x) rfl rfl ?d1 ?d2 ?d3 ?d4 ?d5 (by omega) ?_)
           | go_in)
          case d1=>rw [HDC.out,← HW1.out];exact cells_of_list (w:=W1) (cs:=[.string x,.int .i64 _,.int .i64 dv]) (T:=166) (by rw [HW1.out];simp)
          case d2=>exact dfC_one _ _ _
          case d3=>unfold maxLen;omega
          case d4=>omega
          case d5=>rw [← HW1.out];first | omega | (simp;omega)
          intro v' w6 hown6 hg6 _
          rw [← HW1.out] at hg6
          obtain ⟨ad5,nn5,cp5,hv5⟩:=own_lenK hown6
          subst hv5
          have HB6:Hid (Below w5.heap.size w5 w6):=by
           refine (HB1'.out.alloc hs1 _).grown hg6 ?_ (fun j hj=>(HO1'.out.lt j hj).1)
           have:=hs1
           simp
           omega
          have HO6:Hid (w6.ownsRow w5.heap.size 166 3 (.slice ad5 nn5 cp5) ((ms.take (k + 1)).filter (dfN M N)).length (((ms.take (k + 1)).filter (dfN M N)).flatMap (dfC M N))):=by
           show w6.ownsRow _ _ _ _ _ _
           rw [HTK.out,List.length_append,List.flatMap_append]
           simpa using hown6
          clear hown6 hg6
          go_wp2
          go_roundw
          case rel=>exact ⟨k + 1,by omega,by go_num,HO6,HB6⟩
          case measure=>simp [intOf];omega
        ·have hq0:dq=0:=Classical.byContradiction fun c=>hnz (Or.inl c)
         have hv0:dv=0:=Classical.byContradiction fun c=>hnz (Or.inr c)
         rw [if_neg (fun c=>hnz (HNI.1 c)),List.append_nil] at HTK
         have HO6:Hid (W1.ownsRow w5.heap.size 166 3 (.slice ad3 n3 cp3) ((ms.take (k + 1)).filter (dfN M N)).length (((ms.take (k + 1)).filter (dfN M N)).flatMap (dfC M N))):=by
          show W1.ownsRow _ _ _ _ _ _
          rw [HTK.out];exact HO1'.out
         clear HNI hnz HDC
         subst hq0 hv0
         go_wp2
         rw [← HW1.out]
         go_roundw
         case rel=>exact ⟨k + 1,by omega,by go_num,HO6,HB1'⟩
         case measure=>simp [intOf];omega
      ·have hk2:k=ms.length:=by omega
       subst hk2
       obtain ⟨ad3,n3,cp3,hv3⟩:=own_lenK HO.out
       subst hv3
       have HO5:Hid (wr.ownsRow w.heap.size 166 3 (.slice ad3 n3 cp3) (ms.filter (dfN M N)).length ((ms.filter (dfN M N)).flatMap (dfC M N))):=by
        have h1:=HO.out
        rw [List.take_length] at h1
        exact own_below h1 (Below.refl _ _) hs5
       have HB6:Hid (Below w.heap.size w wr):=HB5.out.trans (HBW.out.mono hs5)
       go_wp2
       go_ret
       refine ⟨_,ms.filter (dfN M N),rfl,?_,?_,HB6.out⟩
       ·rw [HMU.out,HNU.out];exact HKK.out
       ·rw [HMU.out,HNU.out];exact HO5.out
end Go.Proofs.YtbleojodidbhiaaGreatDoor
