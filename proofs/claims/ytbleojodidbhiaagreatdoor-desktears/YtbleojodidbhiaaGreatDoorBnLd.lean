/-  -/
import Derived.Test.YtbleojodidbhiaaGreatDoorBnV
import Derived.Test.YtbleojodidbhiaaGreatDoorBnA
import Derived.Test.YtbleojodidbhiaaGreatDoorBnD
import Derived.Laws.AppendOwnNone
namespace Go.Proofs.YtbleojodidbhiaaGreatDoor
open Go.RowKit
def pstZ:Value:=.agg #[.string ⟨#[]⟩,.string ⟨#[]⟩,.int .i64 0]
theorem Tryz.infoPst:(Tryz.prog.info? 218).map (fun i=>(i.zero,i.size,i.bytes))=some (some pstZ,3,40):=by kernel_rfl
def fivesV (f:Fig):Value:=.agg #[.string aStock,.string aSupply,.int .i64 f.inn,.string aSold,.string aStock,.int .i64 f.out,.string aLoss,.string aStock,.int .i64 f.loss,.string aStock,.string aGain,.int .i64 f.gain,.string aLate,.string aSupply,.int .i64 f.late]
theorem ixp0 (a0 a1 a2 a3 a4 a5 a6 a7 a8 a9 a10 a11 a12 a13 a14:Value) (w:World):(Instr.index 219 (.agg #[a0,a1,a2,a3,a4,a5,a6,a7,a8,a9,a10,a11,a12,a13,a14]) (.int .i64 0)).run Tryz.prog w = .ok (.agg #[a0,a1,a2]) w:=by kernel_rfl
theorem ixp1 (a0 a1 a2 a3 a4 a5 a6 a7 a8 a9 a10 a11 a12 a13 a14:Value) (w:World):(Instr.index 219 (.agg #[a0,a1,a2,a3,a4,a5,a6,a7,a8,a9,a10,a11,a12,a13,a14]) (.int .i64 1)).run Tryz.prog w = .ok (.agg #[a3,a4,a5]) w:=by kernel_rfl
theorem ixp2 (a0 a1 a2 a3 a4 a5 a6 a7 a8 a9 a10 a11 a12 a13 a14:Value) (w:World):(Instr.index 219 (.agg #[a0,a1,a2,a3,a4,a5,a6,a7,a8,a9,a10,a11,a12,a13,a14]) (.int .i64 2)).run Tryz.prog w = .ok (.agg #[a6,a7,a8]) w:=by kernel_rfl
theorem ixp3 (a0 a1 a2 a3 a4 a5 a6 a7 a8 a9 a10 a11 a12 a13 a14:Value) (w:World):(Instr.index 219 (.agg #[a0,a1,a2,a3,a4,a5,a6,a7,a8,a9,a10,a11,a12,a13,a14]) (.int .i64 3)).run Tryz.prog w = .ok (.agg #[a9,a10,a11]) w:=by kernel_rfl
theorem ixp4 (a0 a1 a2 a3 a4 a5 a6 a7 a8 a9 a10 a11 a12 a13 a14:Value) (w:World):(Instr.index 219 (.agg #[a0,a1,a2,a3,a4,a5,a6,a7,a8,a9,a10,a11,a12,a13,a14]) (.int .i64 4)).run Tryz.prog w = .ok (.agg #[a12,a13,a14]) w:=by kernel_rfl
theorem index_fives (f:Fig) (k:Nat) (hk:k < (fives f).length) (w:World):(Instr.index 219 (fivesV f) (.int .i64 k)).run Tryz.prog w = .ok (pstV (fives f)[k]) w:=by
 have h5:k < 5:=hk
 obtain rfl | rfl | rfl | rfl | rfl:k=0∨k=1∨k=2∨k=3∨k=4:=by omega
 ·exact ixp0 _ _ _ _ _ _ _ _ _ _ _ _ _ _ _ w
 ·exact ixp1 _ _ _ _ _ _ _ _ _ _ _ _ _ _ _ w
 ·exact ixp2 _ _ _ _ _ _ _ _ _ _ _ _ _ _ _ w
 ·exact ixp3 _ _ _ _ _ _ _ _ _ _ _ _ _ _ _ w
 ·exact ixp4 _ _ _ _ _ _ _ _ _ _ _ _ _ _ _ w
theorem take_flat {l:List Pst} {k:Nat} (hk:k < l.length):(l.take (k + 1)).flatMap post1=(l.take k).flatMap post1 ++ post1 l[k]:=by
 rw [List.take_succ_eq_append_getElem hk,List.flatMap_append]
 simp
theorem pst_new (w:World) (p:Pst) (j:Nat) (u:Value) (h:(pstC p)[j]?=some u):(w.alloc (.cells #[.string p.deb,.string p.cre,.int .i64 p.amt] 218)).cell? ((⟨w.heap.size,0,none⟩:Addr).add j)=some u:=by
 have hj:j < 3:=by
  have:=(List.getElem?_eq_some_iff.1 h).1
  rwa [pstC_len] at this
 obtain rfl | rfl | rfl:j=0∨j=1∨j=2:=by omega
 all_goals simp [pstC] at h;subst h;simp [Addr.add]
theorem pstC_one (p:Pst):∀ u ∈ pstC p,u.oneCell'=true:=by
 intro u hu
 simp only [pstC,List.mem_cons,List.not_mem_nil,or_false] at hu
 rcases hu with rfl | rfl | rfl <;> rfl
theorem own_lenL {w:World} {B:Nat} {T:TypeId} {m n:Nat} {v:Value} {xs:List Value} (h:w.ownsRow B T m v n xs):∃ ad n' cap,v = .slice ad n' cap:=by
 rcases h.2 with ⟨rfl,_⟩ | ⟨g,cap,cur,rfl,_⟩
 ·exact ⟨_,_,_,rfl⟩
 ·exact ⟨_,_,_,rfl⟩
set_option maxRecDepth 20000 in
set_option maxHeartbeats 4000000 in
theorem post_any (f:Fig) (w:World):Calls Tryz.prog 112 #[figV f] w fun r w'=>∃ v,r = .returned v∧w'.ownsRow w.heap.size 218 3 v (postL f).length ((postL f).flatMap pstC)∧Below w.heap.size w w':=by
 obtain ⟨i0,hi,hz0,hz1,hz2⟩:=info_parts Tryz.infoPst
 have hix:=index_fives f
 have h5:(fives f).length=5:=rfl
 obtain ⟨f1,f2,f3,f4,f5⟩:=f
 unfold figV
 unfold fivesV pstV at hix
 unfold aStock aSupply aSold aLoss aGain aLate at hix
 simp only at hix
 go_enter Tryz.func112,Tryz.ntmps112
 go_wp2_with fail
 obtain ⟨w0,hw0⟩:∃ W,W=((w.alloc (.cells #[.int .i64 f1,.int .i64 f2,.int .i64 f3,.int .i64 f4,.int .i64 f5] 151)).alloc (.cells #[.string ⟨#[115,116,111,99,107]⟩,.string ⟨#[115,117,112,112,108,121]⟩,.int .i64 f1,.string ⟨#[115,111,108,100]⟩,.string ⟨#[115,116,111,99,107]⟩,.int .i64 f2,.string ⟨#[108,111,115,115]⟩,.string ⟨#[115,116,111,99,107]⟩,.int .i64 f3,.string ⟨#[115,116,111,99,107]⟩,.string ⟨#[103,97,105,110]⟩,.int .i64 f4,.string ⟨#[108,97,116,101]⟩,.string ⟨#[115,117,112,112,108,121]⟩,.int .i64 f5] 219)):=⟨_,rfl⟩
 rw [← hw0]
 have hb0:Below w.heap.size w w0:=by rw [hw0];exact ((Below.refl _ _).alloc (Nat.le_refl _) _).alloc (by simp) _
 have HB0:Hid (Below w.heap.size w w0):=hb0
 clear hw0 hb0
 obtain ⟨ff,hff⟩:∃ x,x=fives ⟨f1,f2,f3,f4,f5⟩:=⟨_,rfl⟩
 rw [← hff] at h5 hix
 have HFF:Hid (ff=fives ⟨f1,f2,f3,f4,f5⟩):=hff
 clear hff
 go_loopw [4,24] (fun v i wr=>∃ k:Nat,k≤5∧i = .int .i64 k∧wr.ownsRow w.heap.size 218 3 v ((ff.take k).flatMap post1).length (((ff.take k).flatMap post1).flatMap pstC)∧Below w.heap.size w wr) (fun _ i _=>5 - (intOf i).toNat)
 case atStart=>exact ⟨0,by omega,rfl,World.ownsRow_nil _ _ _ _,HB0.out⟩
 case round=>
  obtain ⟨k,hk,rfl,hown,hb⟩:=hrel
  by_cases hlt:k < 5
  ·have hkl:k < ff.length:=by omega
   have hx:=hix k hkl wr
   have htk:=take_flat hkl
   have hll:((ff.take k).flatMap post1).length≤5:=by have:=postf_len (ff.take k);rw [List.length_take] at this;omega
   obtain ⟨⟨d,c,n⟩,hp⟩:∃ p,p=ff[k]:=⟨_,rfl⟩
   rw [← hp] at hx htk
   simp only at hx
   have HTK:Hid ((ff.take (k + 1)).flatMap post1=(ff.take k).flatMap post1 ++ post1 ⟨d,c,n⟩):=htk
   obtain ⟨qs,hqs⟩:∃ q,q=(ff.take k).flatMap post1:=⟨_,rfl⟩
   rw [← hqs] at hown hll HTK
   clear htk hp hqs hix
   obtain ⟨ad,nn,cp,hv⟩:=own_lenL hown
   subst hv
   obtain ⟨W1,hW1⟩:∃ W,W=wr.alloc (.cells #[.string d,.string c,.int .i64 n] 218):=⟨_,rfl⟩
   have hb1:Below wr.heap.size wr W1:=by rw [hW1];exact (Below.refl _ _).alloc (Nat.le_refl _) _
   have HB1:Hid (Below wr.heap.size wr W1):=hb1
   have hs1:W1.heap.size=wr.heap.size + 1:=by rw [hW1];simp
   have hsz:=hb.size
   have HB:Hid (Below w.heap.size w wr):=hb
   have HW1:Hid (W1=wr.alloc (.cells #[.string d,.string c,.int .i64 n] 218)):=hW1
   have hown1:W1.ownsRow w.heap.size 218 3 (.slice ad nn cp) qs.length (qs.flatMap pstC):=by rw [hW1];exact hown.alloc _
   clear hb hb1 hW1
   by_cases c1:0 < n
   ·have HPO:Hid (post1 ⟨d,c,n⟩=[⟨d,c,n⟩]):=by show _=_;simp [post1,c1]
    go_wp2_with (first
     | (at_builtin;refine wpList_append_new _ rfl _ _ 154 rfl w.heap.size 218 i0 pstZ 3 40 Tryz.underlying154 hi hz0 hz1 hz2 rfl (by decide) (.slice ad nn cp) _ _ rfl ((hown.alloc _).alloc _) ⟨wr.heap.size + 1,0,none⟩ 1 1 (pstC ⟨d,c,n⟩) rfl rfl ?d1 ?d2 ?d3 ?d4 ?d5 (by omega) ?_)
     | go_in)
    case d1=>first | (simpa using pst_new (wr.alloc (.cells #[.string d,.string c,.int .i64 n] 218)) ⟨d,c,n⟩) | (intro j u h;simpa [pstC] using h)
    case d2=>exact pstC_one _
    case d3=>unfold maxLen;omega
    case d4=>omega
    case d5=>first | omega | (simp;omega)
    intro v' w2 hown2 hg2 hf2
    obtain ⟨ad2,nn2,cp2,hv2⟩:=own_lenL hown2
    subst hv2
    have HB2:Hid (Below w.heap.size w w2):=by
     have b1:Below w.heap.size w ((wr.alloc (.cells #[.string d,.string c,.int .i64 n] 218)).alloc (.cells #[.string d,.string c,.int .i64 n] 218)):=(HB.out.alloc hsz _).alloc (by simp;omega) _
     exact b1.grown hg2 b1.size (fun j hj=>(hown.lt j hj).1)
    have HO2:Hid (w2.ownsRow w.heap.size 218 3 (.slice ad2 nn2 cp2) (qs ++ post1 ⟨d,c,n⟩).length ((qs ++ post1 ⟨d,c,n⟩).flatMap pstC)):=by
     have e:=HPO.out
     show w2.ownsRow _ _ _ _ _ _
     rw [e,List.length_append,List.flatMap_append]
     simpa using hown2
    clear hown2 hg2 hf2 hown hown1
    go_wp2
    go_roundw
    case rel=>
     refine ⟨k + 1,by omega,by go_num,?_,HB2.out⟩
     rw [HTK.out]
     exact HO2.out
    case measure=>simp [intOf];omega
   ·by_cases c2:n < 0
    ·have HPO:Hid (post1 ⟨d,c,n⟩=[⟨c,d,wrap64 (-n)⟩]):=by show _=_;simp [post1,c1,c2]
     go_wp2_with (first
      | (at_builtin;refine wpList_append_new _ rfl _ _ 154 rfl w.heap.size 218 i0 pstZ 3 40 Tryz.underlying154 hi hz0 hz1 hz2 rfl (by decide) (.slice ad nn cp) _ _ rfl ((hown.alloc _).alloc _) ⟨wr.heap.size + 1,0,none⟩ 1 1 (pstC ⟨c,d,(wrap64 (-n))⟩) rfl rfl ?d1 ?d2 ?d3 ?d4 ?d5 (by omega) ?_)
      | go_in)
     case d1=>first | (simpa using pst_new (wr.alloc (.cells #[.string d,.string c,.int .i64 n] 218)) ⟨c,d,(wrap64 (-n))⟩) | (intro j u h;simpa [pstC] using h)
     case d2=>exact pstC_one _
     case d3=>unfold maxLen;omega
     case d4=>omega
     case d5=>first | omega | (simp;omega)
     intro v' w2 hown2 hg2 hf2
     obtain ⟨ad2,nn2,cp2,hv2⟩:=own_lenL hown2
     subst hv2
     have HB2:Hid (Below w.heap.size w w2):=by
      have b1:Below w.heap.size w ((wr.alloc (.cells #[.string d,.string c,.int .i64 n] 218)).alloc (.cells #[.string c,.string d,.int .i64 (wrap64 (-n))] 218)):=(HB.out.alloc hsz _).alloc (by simp;omega) _
      exact b1.grown hg2 b1.size (fun j hj=>(hown.lt j hj).1)
     have HO2:Hid (w2.ownsRow w.heap.size 218 3 (.slice ad2 nn2 cp2) (qs ++ post1 ⟨d,c,n⟩).length ((qs ++ post1 ⟨d,c,n⟩).flatMap pstC)):=by
      have e:=HPO.out
      show w2.ownsRow _ _ _ _ _ _
      rw [e,List.length_append,List.flatMap_append]
      simpa using hown2
     clear hown2 hg2 hf2 hown hown1
     go_wp2
     go_roundw
     case rel=>
      refine ⟨k + 1,by omega,by go_num,?_,HB2.out⟩
      rw [HTK.out]
      exact HO2.out
     case measure=>simp [intOf];omega
    ·have HO2:Hid (W1.ownsRow w.heap.size 218 3 (.slice ad nn cp) (qs ++ post1 ⟨d,c,n⟩).length ((qs ++ post1 ⟨d,c,n⟩).flatMap pstC)):=by
      have e:post1 ⟨d,c,n⟩=[]:=by unfold post1;rw [if_neg c1,if_neg c2]
      show W1.ownsRow _ _ _ _ _ _
      rw [e,List.append_nil]
      exact hown1
     have HB2:Hid (Below w.heap.size w W1):=HB.out.trans (HB1.out.mono hsz)
     clear hown hown1
     go_wp2
     rw [← HW1.out]
     go_roundw
     case rel=>
      refine ⟨k + 1,by omega,by go_num,?_,HB2.out⟩
      rw [HTK.out]
      exact HO2.out
     case measure=>simp [intOf];omega
  ·have hk5:k=5:=by omega
   subst hk5
   have e:ff.take 5=ff:=List.take_of_length_le (by omega)
   rw [e,HFF.out] at hown
   obtain ⟨ad,nn,cp,hv⟩:=own_lenL hown
   subst hv
   have HO:Hid (wr.ownsRow w.heap.size 218 3 (.slice ad nn cp) (postL ⟨f1,f2,f3,f4,f5⟩).length ((postL ⟨f1,f2,f3,f4,f5⟩).flatMap pstC)):=hown
   have HB:Hid (Below w.heap.size w wr):=hb
   clear e hown hb
   go_wp2
   go_ret
   exact ⟨_,rfl,HO.out,HB.out⟩
def PstsAt (w:World) (v:Value) (ps:List Pst):Prop:=
 (v = .slice none 0 0∧ps=[])∨∃ g o cap,v = .slice (some ⟨g,o,none⟩) ps.length cap∧g < w.heap.size∧∀ (k j:Nat) (hk:k < ps.length),j < 3→w.cell? ⟨g,o + k * 3 + j,none⟩=(pstC ps[k])[j]?
theorem PstsAt.below {w w':World} {v:Value} {ps:List Pst} (h:PstsAt w v ps) (hb:Below w.heap.size w w'):PstsAt w' v ps:=by
 rcases h with h | ⟨g,o,cap,e,hg,hc⟩
 ·exact Or.inl h
 ·exact Or.inr ⟨g,o,cap,e,Nat.lt_of_lt_of_le hg hb.size,fun k j hk hj=>(hb.cell (p:=⟨g,o + k * 3 + j,none⟩) hg).trans (hc k j hk hj)⟩
theorem PstsAt.block {w:World} {v:Value} {ps:List Pst} (h:PstsAt w v ps):∀ k,v.ownBlock=some k→k < w.heap.size:=by
 rcases h with ⟨rfl,_⟩ | ⟨g,o,cap,rfl,hg,_⟩
 ·intro k hk;cases hk
 ·intro k hk;simp [Value.ownBlock] at hk;omega
theorem PstsAt.same {w w':World} {v:Value} {ps:List Pst} (h:PstsAt w v ps) (hs:w.heap.size≤w'.heap.size) (e:∀ k,v.ownBlock=some k→w'.heap[k]?=w.heap[k]?):PstsAt w' v ps:=by
 rcases h with h | ⟨g,o,cap,rfl,hg,hc⟩
 ·exact Or.inl h
 ·exact Or.inr ⟨g,o,cap,rfl,by omega,fun k j hk hj=>(World.cell?_of_block (a:=⟨g,o + k * 3 + j,none⟩) (e g rfl)).trans (hc k j hk hj)⟩
theorem PstsAt.of_own {w:World} {B:Nat} {v:Value} {ps:List Pst} (h:w.ownsRow B 218 3 v ps.length (ps.flatMap pstC)):PstsAt w v ps:=by
 rcases own_form h with ⟨hv,hn,_⟩ | ⟨g,cap,hv,_,hgl,_⟩
 ·exact Or.inl ⟨hv,List.length_eq_zero_iff.1 hn⟩
 ·subst hv
  exact Or.inr ⟨g,0,cap,rfl,hgl,fun k j hk hj=>by rw [Nat.zero_add];exact (own_cell pstC_len h k j hk hj).1⟩
theorem below_cellL {w w':World} {p:Addr} {v:Value} (hb:Below w.heap.size w w') (h:w.cell? p=some v):w'.cell? p=some v:=(hb.cell (World.block_lt_of_cell? _ _ h)).trans h
theorem wpList_app_psts {w:World} {ops:Array Oper} {rest:List Oper} {o:Oper} {a:Act} {Q:Exit→Act→World→Prop} (hgd:o.guard=none) (s x:Operand)
  (ho:o.op = .call { callee:=.builtin .append,args:=#[s,x],argTypes:=#[154,154] })
  (B:Nat) (v:Value) (as' bs:List Pst) (hs:a.eval s=v) (hown:w.ownsRow B 218 3 v as'.length (as'.flatMap pstC)) (yv:Value) (hx:a.eval x=yv) (hy:PstsAt w yv bs)
  (hl:as'.length + bs.length≤100000) (hB:B≤w.heap.size)
  (h:∀ v' w',w'.ownsRow B 218 3 v' (as' ++ bs).length ((as' ++ bs).flatMap pstC)→w.grownBy w' v.ownBlock→wpList Tryz.prog ops Q rest (a.put o.dst v') w'):wpList Tryz.prog ops Q (o :: rest) a w:=by
 obtain ⟨i0,hi,hz0,hz1,hz2⟩:=info_parts Tryz.infoPst
 rcases hy with ⟨rfl,rfl⟩ | ⟨g,of,cap,rfl,hg,hc⟩
 ·refine wpList_append_own_none hgd s x 154 ho B 218 i0 3 Tryz.underlying154 hi v _ _ hs hown hx (h v w (by rw [List.append_nil];exact hown) ⟨rfl,rfl,rfl,Nat.le_refl _,fun _ _ _=>rfl⟩)
 ·refine wpList_append_own w hgd s x 154 ho B 218 i0 pstZ 3 40 Tryz.underlying154 hi hz0 hz1 hz2 rfl (by decide) v _ _ hs hown ⟨g,of,none⟩ bs.length cap (bs.flatMap pstC) hx (flat_len pstC 3 pstC_len bs) (fun j u hj=>?_) (fun u hu=>?_) (by unfold maxLen;omega) (by omega) hB (fun v' w' h1 h2 _=>h v' w' (by rw [List.length_append,List.flatMap_append];exact h1) h2)
  ·have hlt:j < (bs.flatMap pstC).length:=(List.getElem?_eq_some_iff.1 hj).1
   rw [flat_len pstC 3 pstC_len] at hlt
   have hjk:j / 3 < bs.length:=by omega
   have e:=hc (j / 3) (j % 3) hjk (Nat.mod_lt _ (by omega))
   have e2:=flat_get pstC 3 pstC_len bs (j / 3) (j % 3) hjk (Nat.mod_lt _ (by omega))
   have e3:j / 3 * 3 + j % 3=j:=by omega
   rw [e3] at e2
   rw [← e2,hj,Nat.add_assoc,e3] at e
   rw [Addr.add_lit]
   exact e
  ·obtain ⟨e,_,he⟩:=List.mem_flatMap.1 hu
   exact pstC_one e u he
structure AccSz:Prop where
 aStock:aStock.size≤1000
 aSupply:aSupply.size≤1000
 aSold:aSold.size≤1000
 aLoss:aLoss.size≤1000
 aGain:aGain.size≤1000
 aLate:aLate.size≤1000
theorem acc_sz:AccSz:=⟨by decide,by decide,by decide,by decide,by decide,by decide⟩
theorem postL_ok (f:Fig) (hf:f.ok):∀ p ∈ postL f,I64 p.amt∧p.deb.size≤1000∧p.cre.size≤1000:=by
 intro p hp
 unfold postL at hp
 rw [List.mem_flatMap] at hp
 obtain ⟨q,hq,hp⟩:=hp
 have hq2:I64 q.amt∧q.deb.size≤1000∧q.cre.size≤1000:=by
  simp only [fives,List.mem_cons,List.not_mem_nil,or_false] at hq
  rcases hq with rfl | rfl | rfl | rfl | rfl
  ·exact ⟨hf.inn,acc_sz.aStock,acc_sz.aSupply⟩
  ·exact ⟨hf.out,acc_sz.aSold,acc_sz.aStock⟩
  ·exact ⟨hf.loss,acc_sz.aLoss,acc_sz.aStock⟩
  ·exact ⟨hf.gain,acc_sz.aStock,acc_sz.aGain⟩
  ·exact ⟨hf.late,acc_sz.aLate,acc_sz.aSupply⟩
 unfold post1 at hp
 split at hp
 ·simp only [List.mem_singleton] at hp;subst hp;exact hq2
 ·split at hp
  ·simp only [List.mem_singleton] at hp;subst hp;exact ⟨i64_wrap _,hq2.2.2,hq2.2.1⟩
  ·cases hp
end Go.Proofs.YtbleojodidbhiaaGreatDoor
