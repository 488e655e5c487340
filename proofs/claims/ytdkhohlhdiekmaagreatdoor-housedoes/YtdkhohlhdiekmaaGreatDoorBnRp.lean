/-  -/
import Derived.Test.YtdkhohlhdiekmaaGreatDoorRefPut
import Derived.Test.YtdkhohlhdiekmaaGreatDoorBnL
import Derived.Test.YtdkhohlhdiekmaaGreatDoorCoRun
namespace Go.Proofs.YtdkhohlhdiekmaaGreatDoor
open Go.RowKit Go.Maps
structure RunR (B:Nat) (W:World) (rb mb lb n n2:Nat) (D D2:DataW Value) (V:ByteArray→Value) (M:Stks) (u:Value) (ls:List Lin) (ev:Value) (fs:List Ev):Prop where
 c0:W.cell? ⟨rb,0,none⟩=some u
 f0:W.frozen? ⟨rb,0,none⟩=false
 c1:W.cell? ⟨rb,1,none⟩=some (.map (some mb))
 lay:RLay B W mb n D V fun x=>(M x).ys
 last:W.ownsMap Tryz.prog 9 heldE lb n2 D2
 pr:∀ x,D2.atKey (keyB x) (.held (.int .i64 0)) = .held (.int .i64 (M x).price)
 own:W.ownsRow B 267 5 u ls.length (ls.flatMap linC)
 evs:EvsAt W ev fs
 d1:rb ≠ mb
 d2:lb ≠ mb
 d3:lb ≠ rb
 u1:u.ownBlock ≠ some rb
 u2:u.ownBlock ≠ some mb
 u3:u.ownBlock ≠ some lb
 v1:∀ x,(V x).ownBlock ≠ some rb
 v3:∀ x,(V x).ownBlock ≠ some lb
 vu:∀ x k,(V x).ownBlock=some k→u.ownBlock ≠ some k
 e1:ev.ownBlock ≠ some rb
 e2:ev.ownBlock ≠ some mb
 e3:ev.ownBlock ≠ some lb
 ve:∀ x k,(V x).ownBlock=some k→ev.ownBlock ≠ some k
 ue:∀ k,u.ownBlock=some k→ev.ownBlock ≠ some k
section
variable {B:Nat} {W w':World} {rb mb lb n n2:Nat} {D D2:DataW Value} {V:ByteArray→Value} {M:Stks} {u:Value} {ls:List Lin} {ev:Value} {fs:List Ev}
theorem RunR.rlt (h:RunR B W rb mb lb n n2 D D2 V M u ls ev fs):rb < W.heap.size:=World.block_lt_of_cell? _ _ h.c0
theorem RunR.below (h:RunR B W rb mb lb n n2 D D2 V M u ls ev fs) (hb:Below W.heap.size W w'):RunR B w' rb mb lb n n2 D D2 V M u ls ev fs:=
 ⟨below_cell hb h.c0,(hb.frozen (p:=⟨rb,0,none⟩) h.rlt).trans h.f0,below_cell hb h.c1,h.lay.below hb,map_same h.last (hb.block _ h.last.lt),h.pr,own_below h.own hb (Nat.le_refl _),h.evs.below hb,h.d1,h.d2,h.d3,h.u1,h.u2,h.u3,h.v1,h.v3,h.vu,h.e1,h.e2,h.e3,h.ve,h.ue⟩
theorem RunR.turn {n':Nat} {D':DataW Value} {x:ByteArray} {nv:Value} {s':Stk} (h:RunR B W rb mb lb n n2 D D2 V M u ls ev fs) (hg:W.grownBy w' (some mb)) (hl:RLay B w' mb n' D' (fun z=>if z=x then nv else V z) (fun z=>if z=x then s'.ys else (M z).ys)) (hf:∀ k,nv.ownBlock=some k→W.heap.size≤k) (hp:s'.price=(M x).price) :
  RunR B w' rb mb lb n' n2 D' D2 (fun z=>if z=x then nv else V z) (upd M x s') u ls ev fs:=by
 have er:w'.heap[rb]?=W.heap[rb]?:=hg.block rb h.rlt (fun e=>h.d1 (by injection e))
 have ulk:∀ k,u.ownBlock=some k→k < W.heap.size:=fun k hk=>(h.own.lt k hk).2
 have elk:∀ k,ev.ownBlock=some k→k < W.heap.size:=fun k hk=>h.evs.lt hk
 have hM:(fun z=>(upd M x s' z).ys)=fun z=>if z=x then s'.ys else (M z).ys:=by
  funext z
  by_cases e:z=x
  ·subst e;rw [upd_same,if_pos rfl]
  ·rw [upd_other _ _ _ _ e,if_neg e]
 have old:∀ (P:Nat→Prop) (z:ByteArray),(∀ k,(V z).ownBlock=some k→P k)→(∀ k,W.heap.size≤k→P k)→∀ k,(if z=x then nv else V z).ownBlock=some k→P k:=fun P z h1 h2 k hk=>by
  by_cases e:z=x
  ·rw [if_pos e] at hk;exact h2 k (hf k hk)
  ·rw [if_neg e] at hk;exact h1 k hk
 refine ⟨(World.cell?_of_block (a:=⟨rb,0,none⟩) er).trans h.c0,(World.frozen?_of_block (a:=⟨rb,0,none⟩) er).trans h.f0,(World.cell?_of_block (a:=⟨rb,1,none⟩) er).trans h.c1,by rw [hM];exact hl,
  map_same h.last (hg.block lb h.last.lt (fun e=>h.d2 (by injection e))),fun z=>?_,row_same h.own fun k hk=>hg.block k (ulk k hk) (fun e=>h.u2 (by rw [hk,e])),
  h.evs.same hg.size fun k hk=>hg.block k (elk k hk) (fun e=>h.e2 (by rw [hk,e])),h.d1,h.d2,h.d3,h.u1,h.u2,h.u3,fun z e=>?_,fun z e=>?_,fun z=>?_,h.e1,h.e2,h.e3,fun z=>?_,h.ue⟩
 ·by_cases e:z=x
  ·subst e;rw [upd_same,hp,h.pr]
  ·rw [upd_other _ _ _ _ e,h.pr]
 ·exact old (fun k=>k ≠ rb) z (fun k hk c=>h.v1 z (by rw [hk,c])) (fun k hk c=>by have:=h.rlt;omega) rb e rfl
 ·exact old (fun k=>k ≠ lb) z (fun k hk c=>h.v3 z (by rw [hk,c])) (fun k hk c=>by have:=h.last.lt;omega) lb e rfl
 ·exact old (fun k=>u.ownBlock ≠ some k) z (h.vu z) (fun k hk c=>by have:=ulk k c;omega)
 ·exact old (fun k=>ev.ownBlock ≠ some k) z (h.ve z) (fun k hk c=>by have:=elk k c;omega)
theorem RunR.price {x:ByteArray} {p:Int} (h:RunR B W rb mb lb n n2 D D2 V M u ls ev fs) (hg:W.grownBy w' (some lb)) (hm:w'.ownsMap Tryz.prog 9 heldE lb (n2 + 1) (D2.put (keyB x) (.held (.int .i64 p)))) :
  RunR B w' rb mb lb n (n2 + 1) D (D2.put (keyB x) (.held (.int .i64 p))) V (upd M x ⟨(M x).ys,p⟩) u ls ev fs:=by
 have isM:IsMap D2:=(h.last.canon law_strT).imp fun es ⟨e,_⟩=>e
 have er:w'.heap[rb]?=W.heap[rb]?:=hg.block rb h.rlt (fun e=>h.d3 (by injection e with e;exact e.symm))
 have hM:(fun z=>(upd M x ⟨(M x).ys,p⟩ z).ys)=fun z=>(M z).ys:=by
  funext z
  by_cases e:z=x
  ·subst e;rw [upd_same]
  ·rw [upd_other _ _ _ _ e]
 refine ⟨(World.cell?_of_block (a:=⟨rb,0,none⟩) er).trans h.c0,(World.frozen?_of_block (a:=⟨rb,0,none⟩) er).trans h.f0,(World.cell?_of_block (a:=⟨rb,1,none⟩) er).trans h.c1,?_,hm,fun z=>?_,
  row_same h.own fun k hk=>hg.block k ((h.own.lt k hk).2) (fun e=>h.u3 (by rw [hk,e])),h.evs.same hg.size fun k hk=>hg.block k (h.evs.lt hk) (fun e=>h.e3 (by rw [hk,e])),h.d1,h.d2,h.d3,h.u1,h.u2,h.u3,h.v1,h.v3,h.vu,h.e1,h.e2,h.e3,h.ve,h.ue⟩
 ·rw [hM]
  exact h.lay.kept (hg.block mb h.lay.map.lt (fun e=>h.d2 (by injection e with e;exact e.symm))) fun z k hk=>hg.block k ((h.lay.lay z).lt hk) (fun e=>h.v3 z (by rw [hk,e]))
 ·by_cases e:z=x
  ·subst e;rw [upd_same,atKey_put_same isM (keyB_key z)]
  ·rw [upd_other _ _ _ _ e,atKey_put_other (fun c=>e (keyB_inj c)),h.pr]
end
end Go.Proofs.YtdkhohlhdiekmaaGreatDoor
namespace Go.Proofs.YtdkhohlhdiekmaaGreatDoor
open Go.RowKit Go.Maps
structure Apart (b rb mb lb:Nat) (V:ByteArray→Value) (u ev:Value):Prop where
 r:rb ≠ b
 m:mb ≠ b
 l:lb ≠ b
 v:∀ x,(V x).ownBlock ≠ some b
 u:u.ownBlock ≠ some b
 e:ev.ownBlock ≠ some b
theorem Apart.turn {b rb mb lb:Nat} {V:ByteArray→Value} {u ev nv:Value} {x:ByteArray} (h:Apart b rb mb lb V u ev) (hn:nv.ownBlock ≠ some b):Apart b rb mb lb (fun z=>if z=x then nv else V z) u ev:=
 ⟨h.r,h.m,h.l,fun z=>by
  by_cases e:z=x
  ·simp only [if_pos e];exact hn
  ·simp only [if_neg e];exact h.v z,h.u,h.e⟩
section
variable {B:Nat} {W w':World} {rb mb lb n n2:Nat} {D D2:DataW Value} {V:ByteArray→Value} {M:Stks} {u:Value} {ls:List Lin} {ev:Value} {fs:List Ev}
theorem RunR.apart (h:RunR B W rb mb lb n n2 D D2 V M u ls ev fs) {b:Nat} (hb:W.heap.size≤b):Apart b rb mb lb V u ev:=
 ⟨fun e=>by have:=h.rlt;omega,fun e=>by have:=h.lay.map.lt;omega,fun e=>by have:=h.last.lt;omega,fun x e=>by have:=(h.lay.lay x).lt e;omega,fun e=>by have:=(h.own.lt _ e).2;omega,fun e=>by have:=h.evs.lt e;omega⟩
theorem RunR.but {b:Nat} (h:RunR B W rb mb lb n n2 D D2 V M u ls ev fs) (ha:Apart b rb mb lb V u ev) (hs:W.heap.size≤w'.heap.size) (e:∀ j,j ≠ b→j < W.heap.size→w'.heap[j]?=W.heap[j]?):RunR B w' rb mb lb n n2 D D2 V M u ls ev fs:=by
 have er:=e rb ha.r h.rlt
 exact ⟨(World.cell?_of_block (a:=⟨rb,0,none⟩) er).trans h.c0,(World.frozen?_of_block (a:=⟨rb,0,none⟩) er).trans h.f0,(World.cell?_of_block (a:=⟨rb,1,none⟩) er).trans h.c1,
  h.lay.kept (e mb ha.m h.lay.map.lt) (fun x k hk=>e k (fun c=>ha.v x (by rw [hk,c])) ((h.lay.lay x).lt hk)),map_same h.last (e lb ha.l h.last.lt),h.pr,row_same h.own (fun k hk=>e k (fun c=>ha.u (by rw [hk,c])) (h.own.lt k hk).2),
  h.evs.same hs (fun k hk=>e k (fun c=>ha.e (by rw [hk,c])) (h.evs.lt hk)),h.d1,h.d2,h.d3,h.u1,h.u2,h.u3,h.v1,h.v3,h.vu,h.e1,h.e2,h.e3,h.ve,h.ue⟩
theorem RunR.set {b o:Nat} {v:Value} (h:RunR B W rb mb lb n n2 D D2 V M u ls ev fs) (ha:Apart b rb mb lb V u ev):RunR B (W.setCell ⟨b,o,none⟩ v) rb mb lb n n2 D D2 V M u ls ev fs:=
 h.but ha (by simp) fun j hj _=>Below.heap_setCell _ _ _ _ (by show j ≠ b;exact hj)
theorem RunR.line {w1 w2:World} {u':Value} {y:Lin} (h:RunR B W rb mb lb n n2 D D2 V M u ls ev fs) (hb:Below W.heap.size W w1) (hg:w1.grownBy w2 u.ownBlock) (hf:Fresh w1 u u') (ho:w2.ownsRow B 267 5 u' (ls ++ [y]).length ((ls ++ [y]).flatMap linC)) :
  RunR B (w2.setCell ⟨rb,0,none⟩ u') rb mb lb n n2 D D2 V M u' (ls ++ [y]) ev fs:=by
 have h1:=h.below hb
 have hlt:∀ j,u'.ownBlock=some j→u.ownBlock=some j∨w1.heap.size≤j:=fun j hj=>hf j hj
 have er:w2.heap[rb]?=w1.heap[rb]?:=hg.block rb h1.rlt (fun e=>h.u1 e.symm)
 have keep:∀ j,j < w1.heap.size→u.ownBlock ≠ some j→j ≠ rb→(w2.setCell ⟨rb,0,none⟩ u').heap[j]?=w1.heap[j]?:=fun j hj hu hr=>(Below.heap_setCell _ _ _ _ (by show j ≠ rb;exact hr)).trans (hg.block j hj (fun e=>hu e.symm))
 have c0:w2.cell? ⟨rb,0,none⟩=some u:=(World.cell?_of_block (a:=⟨rb,0,none⟩) er).trans h1.c0
 have no:∀ j,j < w1.heap.size→u.ownBlock ≠ some j→u'.ownBlock ≠ some j:=fun j hj hu e=>by
  rcases hlt j e with c | c
  ·exact hu c
  ·omega
 refine ⟨set_same c0,set_frz.trans ((World.frozen?_of_block (a:=⟨rb,0,none⟩) er).trans h1.f0),(set_other (by simp)).trans ((World.cell?_of_block (a:=⟨rb,1,none⟩) er).trans h1.c1),
  h1.lay.kept (keep mb h1.lay.map.lt h.u2 (fun e=>h.d1 e.symm)) (fun x k hk=>keep k ((h1.lay.lay x).lt hk) (h.vu x k hk) (fun e=>h.v1 x (by rw [hk,e]))),
  map_same h1.last (keep lb h1.last.lt h.u3 h.d3),h.pr,ownsRow_setCell_other ho (no rb h1.rlt h.u1) _,
  h1.evs.same (by simpa using hg.size) (fun k hk=>keep k (h1.evs.lt hk) (fun c=>h.ue k c hk) (fun e=>h.e1 (by rw [hk,e]))),h.d1,h.d2,h.d3,no rb h1.rlt h.u1,no mb h1.lay.map.lt h.u2,no lb h1.last.lt h.u3,h.v1,h.v3,
  fun x k hk=>no k ((h1.lay.lay x).lt hk) (h.vu x k hk),h.e1,h.e2,h.e3,h.ve,fun k hk c=>?_⟩
 rcases hlt k hk with e | e
 ·exact h.ue k e c
 ·have:=h1.evs.lt c;omega
end
end Go.Proofs.YtdkhohlhdiekmaaGreatDoor
namespace Go.Proofs.YtdkhohlhdiekmaaGreatDoor
open Go.RowKit Go.Maps
theorem filt_yes {fs:List Ev} {k:Nat} (hk:k < fs.length) (h:rtB fs[k]=true):(fs.take (k + 1)).filter rtB=(fs.take k).filter rtB ++ [fs[k]]:=by
 rw [List.take_succ_eq_append_getElem hk,List.filter_append]
 simp [h]
theorem filt_no {fs:List Ev} {k:Nat} (hk:k < fs.length) (h:¬ rtB fs[k]=true):(fs.take (k + 1)).filter rtB=(fs.take k).filter rtB:=by
 rw [List.take_succ_eq_append_getElem hk,List.filter_append]
 simp [h]
theorem filt_le (fs:List Ev) (k:Nat):((fs.take k).filter rtB).length≤k:=Nat.le_trans (List.length_filter_le _ _) (by rw [List.length_take];omega)
theorem filt_ok (fs:List Ev) (k:Nat) (x:ByteArray):StkOK k (goS stk00 ((fs.take k).filter rtB) x):=by
 have h:=(goS_ok ((fs.take k).filter rtB) 0 stk00 (fun y=>stk0_ok 0) (fun e he=>(rtB_iff e).1 (List.mem_filter.1 he).2)).1 x
 exact h.more (by have:=filt_le fs k;omega)
structure XAt (W:World) (b:Nat) (id v sh lt:Int) (g:Bool):Prop where
 c0:W.cell? ⟨b,0,none⟩=some (.int .i64 id)
 c1:W.cell? ⟨b,1,none⟩=some (.int .i64 v)
 c2:W.cell? ⟨b,2,none⟩=some (.int .i64 sh)
 c3:W.cell? ⟨b,3,none⟩=some (.int .i64 lt)
 c4:W.cell? ⟨b,4,none⟩=some (.bool g)
 f0:∀ j,W.frozen? ⟨b,j,none⟩=false
theorem XAt.lt {W:World} {b:Nat} {id v sh lt:Int} {g:Bool} (h:XAt W b id v sh lt g):b < W.heap.size:=World.block_lt_of_cell? _ _ h.c0
theorem XAt.kept {W w':World} {b:Nat} {id v sh lt:Int} {g:Bool} (h:XAt W b id v sh lt g) (e:w'.heap[b]?=W.heap[b]?):XAt w' b id v sh lt g:=
 ⟨(World.cell?_of_block (a:=⟨b,0,none⟩) e).trans h.c0,(World.cell?_of_block (a:=⟨b,1,none⟩) e).trans h.c1,(World.cell?_of_block (a:=⟨b,2,none⟩) e).trans h.c2,(World.cell?_of_block (a:=⟨b,3,none⟩) e).trans h.c3,(World.cell?_of_block (a:=⟨b,4,none⟩) e).trans h.c4,fun j=>(World.frozen?_of_block (a:=⟨b,j,none⟩) e).trans (h.f0 j)⟩
theorem XAt.below {W w':World} {b:Nat} {id v sh lt:Int} {g:Bool} (h:XAt W b id v sh lt g) (hb:Below W.heap.size W w'):XAt w' b id v sh lt g:=h.kept (hb.block _ h.lt)
def StepP (B:Nat) (w wx:World) (rb mb lb k:Nat) (M:Stks) (u:Value) (ls:List Lin) (ev:Value) (fs:List Ev) (e:Ev) (xb:Nat):Prop:=
 ∃ (n n2:Nat) (D D2:DataW Value) (V:ByteArray→Value),n≤k + 1∧n2≤k + 1∧Hid (RunR B wx rb mb lb n n2 D D2 V (upd M e.item (doE (M e.item) e).1) u ls ev fs) ∧
  Hid (XAt wx xb (doE (M e.item) e).2.id (doE (M e.item) e).2.val (doE (M e.item) e).2.short (doE (M e.item) e).2.late (doE (M e.item) e).2.gain)∧Hid (Below w.heap.size w wx)
section
variable {W:World} {b:Nat} {id v sh lt:Int} {g:Bool}
theorem XAt.s1 (h:XAt W b id v sh lt g) (t:Int):XAt (W.setCell ⟨b,1,none⟩ (.int .i64 t)) b id t sh lt g:=
 ⟨(set_other (by simp)).trans h.c0,set_same h.c1,(set_other (by simp)).trans h.c2,(set_other (by simp)).trans h.c3,(set_other (by simp)).trans h.c4,fun j=>set_frz.trans (h.f0 j)⟩
theorem XAt.s2 (h:XAt W b id v sh lt g) (t:Int):XAt (W.setCell ⟨b,2,none⟩ (.int .i64 t)) b id v t lt g:=
 ⟨(set_other (by simp)).trans h.c0,(set_other (by simp)).trans h.c1,set_same h.c2,(set_other (by simp)).trans h.c3,(set_other (by simp)).trans h.c4,fun j=>set_frz.trans (h.f0 j)⟩
theorem XAt.s3 (h:XAt W b id v sh lt g) (t:Int):XAt (W.setCell ⟨b,3,none⟩ (.int .i64 t)) b id v sh t g:=
 ⟨(set_other (by simp)).trans h.c0,(set_other (by simp)).trans h.c1,(set_other (by simp)).trans h.c2,set_same h.c3,(set_other (by simp)).trans h.c4,fun j=>set_frz.trans (h.f0 j)⟩
theorem XAt.s4 (h:XAt W b id v sh lt g) (t:Bool):XAt (W.setCell ⟨b,4,none⟩ (.bool t)) b id v sh lt t:=
 ⟨(set_other (by simp)).trans h.c0,(set_other (by simp)).trans h.c1,(set_other (by simp)).trans h.c2,(set_other (by simp)).trans h.c3,set_same h.c4,fun j=>set_frz.trans (h.f0 j)⟩
theorem below_set {N o:Nat} {w W:World} {u:Value} (h:Below N w W) (hb:N≤b):Below N w (W.setCell ⟨b,o,none⟩ u):=
 ⟨h.os,h.tape,h.output,by have:=h.size;simpa using this,fun j hj=>(Below.heap_setCell _ _ _ _ (by show j ≠ b;omega)).trans (h.block j hj)⟩
theorem below_by {N:Nat} {w W w':World} (h:Below N w W) (hN:N≤W.heap.size) (hb:N≤b) (hg:W.grownBy w' (some b)):Below N w w':=
 ⟨hg.os.trans h.os,hg.tape.trans h.tape,hg.output.trans h.output,Nat.le_trans h.size hg.size,fun j hj=>(hg.block j (by omega) (fun e=>by injection e;omega)).trans (h.block j hj)⟩
end
theorem rt_qty {e:Ev} (h:Rt e):0≤e.qty∧e.qty≤100000:=by
 have:=h.2.2
 unfold rtK at this
 omega
theorem rt_mul {e:Ev} (h:Rt e) (k1:e.kind=1):0≤e.qty * e.price∧e.qty * e.price≤100000000000:=by
 have h2:=h.2.2
 unfold rtK at h2
 exact mul_bound (by omega) (by omega) (by omega) (by omega)
section
variable {B:Nat} {w W w5:World} {rb mb lb n n2 xb:Nat} {D D2:DataW Value} {V:ByteArray→Value} {M:Stks} {u:Value} {ls:List Lin} {ev:Value} {fs:List Ev} {id v sh lt:Int} {g:Bool} {item:ByteArray} {nv:Value} {n':Nat} {D':DataW Value} {ys:List Lay}
theorem took (h:RunR B W rb mb lb n n2 D D2 V M u ls ev fs) (hx:XAt W xb id v sh lt g) (ha:Apart xb rb mb lb V u ev) (hB:Below w.heap.size w W) (hm:w.heap.size≤mb)
  (hl:RLay B w5 mb n' D' (fun z=>if z=item then nv else V z) (fun z=>if z=item then ys else (M z).ys)) (hf:∀ k,nv.ownBlock=some k→W.heap.size≤k) (hg:W.grownBy w5 (some mb)) :
  RunR B w5 rb mb lb n' n2 D' D2 (fun z=>if z=item then nv else V z) (upd M item ⟨ys,(M item).price⟩) u ls ev fs∧XAt w5 xb id v sh lt g∧Apart xb rb mb lb (fun z=>if z=item then nv else V z) u ev∧Below w.heap.size w w5:=
 ⟨h.turn (s':=⟨ys,(M item).price⟩) hg hl hf rfl,hx.kept (hg.block xb hx.lt (fun e=>ha.m (by injection e with e;exact e.symm))),ha.turn (fun e=>by have:=hf _ e;have:=hx.lt;omega),below_by hB hB.size hm hg⟩
theorem step3 {k:Nat} {qty price ofI day:Int} (hn:n'≤k + 1) (hn2:n2≤k + 1) (hw:w.heap.size≤xb) (h:RunR B w5 rb mb lb n' n2 D' D2 (fun z=>if z=item then nv else V z) (upd M item ⟨(tk (M item).ys qty).1,(M item).price⟩) u ls ev fs∧XAt w5 xb id 0 0 0 false∧Apart xb rb mb lb (fun z=>if z=item then nv else V z) u ev∧Below w.heap.size w w5) :
  StepP B w ((w5.setCell ⟨xb,1,none⟩ (.int .i64 (tk (M item).ys qty).2.1)).setCell ⟨xb,2,none⟩ (.int .i64 (tk (M item).ys qty).2.2)) rb mb lb k M u ls ev fs ⟨id,item,3,qty,price,ofI,day⟩ xb:=by
 obtain ⟨h1,h2,h3,h4⟩:=h
 have e:doE (M item) ⟨id,item,3,qty,price,ofI,day⟩=(⟨(tk (M item).ys qty).1,(M item).price⟩,⟨id,(tk (M item).ys qty).2.1,(tk (M item).ys qty).2.2,0,false⟩):=by simp [doE]
 refine ⟨n',n2,D',D2,(fun z=>if z=item then nv else V z),hn,hn2,?_,?_,below_set (below_set h4 hw) hw⟩
 ·simp only [e];exact (h1.set h3).set h3
 ·simp only [e];exact (h2.s1 _).s2 _
theorem step5 {k:Nat} {kind qty price ofI day:Int} (hn:n'≤k + 1) (hn2:n2≤k + 1) (hw:w.heap.size≤xb) (k1:kind ≠ 1) (k2:kind ≠ 2) (k3:kind ≠ 3) (hq:¬ sumQ (M item).ys < qty)
  (h:RunR B w5 rb mb lb n' n2 D' D2 (fun z=>if z=item then nv else V z) (upd M item ⟨(tk (M item).ys (sumQ (M item).ys - qty)).1,(M item).price⟩) u ls ev fs∧XAt w5 xb id 0 0 0 false∧Apart xb rb mb lb (fun z=>if z=item then nv else V z) u ev∧Below w.heap.size w w5) :
  StepP B w (w5.setCell ⟨xb,1,none⟩ (.int .i64 (tk (M item).ys (sumQ (M item).ys - qty)).2.1)) rb mb lb k M u ls ev fs ⟨id,item,kind,qty,price,ofI,day⟩ xb:=by
 obtain ⟨h1,h2,h3,h4⟩:=h
 have e:doE (M item) ⟨id,item,kind,qty,price,ofI,day⟩=(⟨(tk (M item).ys (sumQ (M item).ys - qty)).1,(M item).price⟩,⟨id,(tk (M item).ys (sumQ (M item).ys - qty)).2.1,0,0,false⟩):=by simp [doE,k1,k2,k3,hq]
 refine ⟨n',n2,D',D2,(fun z=>if z=item then nv else V z),hn,hn2,?_,?_,below_set h4 hw⟩
 ·simp only [e];exact h1.set h3
 ·simp only [e];exact h2.s1 _
theorem step4 {k:Nat} {kind qty price ofI day:Int} (hn:n'≤k + 1) (hn2:n2≤k + 1) (k1:kind ≠ 1) (k2:kind ≠ 2) (k3:kind ≠ 3) (hq:sumQ (M item).ys < qty)
  (h:RunR B w5 rb mb lb n' n2 D' D2 (fun z=>if z=item then nv else V z) (upd M item ⟨(M item).ys ++ [⟨id,qty - sumQ (M item).ys,(qty - sumQ (M item).ys) * (M item).price⟩],(M item).price⟩) u ls ev fs∧XAt w5 xb id ((qty - sumQ (M item).ys) * (M item).price) 0 0 true∧Apart xb rb mb lb (fun z=>if z=item then nv else V z) u ev∧Below w.heap.size w w5) :
  StepP B w w5 rb mb lb k M u ls ev fs ⟨id,item,kind,qty,price,ofI,day⟩ xb:=by
 obtain ⟨h1,h2,_,h4⟩:=h
 have e:doE (M item) ⟨id,item,kind,qty,price,ofI,day⟩=(⟨(M item).ys ++ [⟨id,qty - sumQ (M item).ys,(qty - sumQ (M item).ys) * (M item).price⟩],(M item).price⟩,⟨id,(qty - sumQ (M item).ys) * (M item).price,0,0,true⟩):=by simp [doE,k1,k2,k3,hq]
 refine ⟨n',n2,D',D2,(fun z=>if z=item then nv else V z),hn,hn2,?_,?_,h4⟩
 ·simp only [e];exact h1
 ·simp only [e];exact h2
theorem step1 {k:Nat} {qty price ofI day:Int} (hn:n'≤k + 1) (hn2:n2≤k + 1)
  (h:RunR B w5 rb mb lb n' n2 D' D2 (fun z=>if z=item then nv else V z) (upd (upd M item ⟨(M item).ys,price⟩) item ⟨(M item).ys ++ [⟨id,qty,qty * price⟩],price⟩) u ls ev fs∧XAt w5 xb id (qty * price) 0 0 false∧Apart xb rb mb lb (fun z=>if z=item then nv else V z) u ev∧Below w.heap.size w w5) :
  StepP B w w5 rb mb lb k M u ls ev fs ⟨id,item,1,qty,price,ofI,day⟩ xb:=by
 obtain ⟨h1,h2,_,h4⟩:=h
 have e:doE (M item) ⟨id,item,1,qty,price,ofI,day⟩=(⟨(M item).ys ++ [⟨id,qty,qty * price⟩],price⟩,⟨id,qty * price,0,0,false⟩):=by simp [doE]
 have e2:upd (upd M item ⟨(M item).ys,price⟩) item ⟨(M item).ys ++ [⟨id,qty,qty * price⟩],price⟩=upd M item ⟨(M item).ys ++ [⟨id,qty,qty * price⟩],price⟩:=by
  funext z
  by_cases c:z=item
  ·subst c;rw [upd_same,upd_same]
  ·rw [upd_other _ _ _ _ c,upd_other _ _ _ _ c,upd_other _ _ _ _ c]
 rw [e2] at h1
 refine ⟨n',n2,D',D2,(fun z=>if z=item then nv else V z),hn,hn2,?_,?_,h4⟩
 ·simp only [e];exact h1
 ·simp only [e];exact h2
theorem evAt_blk {W w':World} {b:Nat} {e:Ev} (h:EvAt W b e) (q:w'.heap[b]?=W.heap[b]?):EvAt w' b e:=
 ⟨(World.cell?_of_block (a:=⟨b,0,none⟩) q).trans h.c0,(World.cell?_of_block (a:=⟨b,1,none⟩) q).trans h.c1,(World.cell?_of_block (a:=⟨b,2,none⟩) q).trans h.c2,(World.cell?_of_block (a:=⟨b,3,none⟩) q).trans h.c3,(World.cell?_of_block (a:=⟨b,4,none⟩) q).trans h.c4,(World.cell?_of_block (a:=⟨b,5,none⟩) q).trans h.c5,(World.cell?_of_block (a:=⟨b,6,none⟩) q).trans h.c6⟩
theorem wrote {eb o:Nat} {e:Ev} {t:Value} {v' sh' lt':Int} {g':Bool} (h:RunR B W rb mb lb n n2 D D2 V M u ls ev fs) (hx:XAt (W.setCell ⟨xb,o,none⟩ t) xb id v' sh' lt' g') (he:EvAt W eb e) (ha:Apart xb rb mb lb V u ev) (hxe:xb ≠ eb) (hB:Below w.heap.size w W) (hw:w.heap.size≤xb) :
  RunR B (W.setCell ⟨xb,o,none⟩ t) rb mb lb n n2 D D2 V M u ls ev fs∧XAt (W.setCell ⟨xb,o,none⟩ t) xb id v' sh' lt' g'∧EvAt (W.setCell ⟨xb,o,none⟩ t) eb e∧Below w.heap.size w (W.setCell ⟨xb,o,none⟩ t):=
 ⟨h.set ha,hx,evAt_blk he (Below.heap_setCell _ _ _ _ (by show eb ≠ xb;exact hxe.symm)),below_set hB hw⟩
theorem priced {eb:Nat} {e:Ev} {p:Int} (h:RunR B W rb mb lb n n2 D D2 V M u ls ev fs∧XAt W xb id v sh lt g∧EvAt W eb e∧Below w.heap.size w W) (ha:Apart xb rb mb lb V u ev) (hle:lb < eb) (hl:w.heap.size≤lb)
  (hg:W.grownBy w5 (some lb)) (hm:w5.ownsMap Tryz.prog 9 heldE lb (n2 + 1) (D2.put (keyB item) (.held (.int .i64 p)))) :
  RunR B w5 rb mb lb n (n2 + 1) D (D2.put (keyB item) (.held (.int .i64 p))) V (upd M item ⟨(M item).ys,p⟩) u ls ev fs∧XAt w5 xb id v sh lt g∧EvAt w5 eb e∧Below w.heap.size w w5:=by
 obtain ⟨h1,h2,h3,h4⟩:=h
 exact ⟨h1.price hg hm,h2.kept (hg.block xb h2.lt (fun c=>ha.l (by injection c with c;exact c.symm))),evAt_blk h3 (hg.block eb (World.block_lt_of_cell? _ _ h3.c0) (fun c=>by injection c;omega)),below_by h4 h4.size hl hg⟩
theorem zero_intR (w:World):(zeroValue 3).run Tryz.prog w = .ok (.int .i64 0) w:=by kernel_rfl
theorem last_look (h:W.ownsMap Tryz.prog 9 heldE lb n2 D2) (hp:∀ x,D2.atKey (keyB x) (.held (.int .i64 0)) = .held (.int .i64 (M x).price)) (x:ByteArray) (hx:x.size≤maxLen):(Instr.lookup 295 (.map (some lb)) (.string x) false).run Tryz.prog W = .ok (.int .i64 (M x).price) W:=by
 obtain ⟨v,ps,h1,h2⟩:=h.lookup law_strT Tryz.underlying295 (zero_intR W) (zd:=.held (.int .i64 0)) (zp:=[]) rfl (key_str x hx)
 have h3:=heldE_inv h2
 rw [hp x] at h3
 rw [h1,← held_inj h3]
end
end Go.Proofs.YtdkhohlhdiekmaaGreatDoor
namespace Go.Proofs.YtdkhohlhdiekmaaGreatDoor
open Go.RowKit Go.Maps
theorem chg_set (o p:Int):∀ (ys:List Lay) (i:Nat) (hi:i < ys.length),(∀ j y,j < i→ys[j]?=some y→y.id ≠ o)→ys[i].id=o→chg o p ys=ys.set i ⟨ys[i].id,ys[i].qty,ys[i].val + p⟩
 | y :: ys,0,_,_,h=>by
  have h':y.id=o:=h
  simp [chg,h']
 | y :: ys,i + 1,hi,hn,h=>by
  have h0:¬ y.id=o:=hn 0 y (by omega) rfl
  have hi':i < ys.length:=by simpa using hi
  have e:=chg_set o p ys i hi' (fun j z hj hz=>hn (j + 1) z (by omega) (by simpa using hz)) h
  simp only [chg,h0,if_false,List.set_cons_succ,List.getElem_cons_succ]
  rw [e]
theorem has_at {o:Int} {ys:List Lay} {i:Nat} (hi:i < ys.length) (h:ys[i].id=o):hasId o ys=true:=by
 unfold hasId
 rw [List.any_eq_true]
 exact ⟨ys[i],List.getElem_mem hi,by simpa using h⟩
theorem has_none {o:Int} {ys:List Lay} (h:∀ j y,j < ys.length→ys[j]?=some y→y.id ≠ o):hasId o ys=false:=by
 unfold hasId
 rw [List.any_eq_false]
 intro y hy
 obtain ⟨j,hj,e⟩:=List.getElem_of_mem hy
 have:=h j y hj (by rw [List.getElem?_eq_getElem hj,e])
 simpa using this
section
variable {B:Nat} {W w:World} {rb mb lb n n2 xb eb:Nat} {D D2:DataW Value} {V:ByteArray→Value} {M:Stks} {u:Value} {ls:List Lin} {ev:Value} {fs:List Ev} {item:ByteArray}
theorem RunR.inpl {g o nn cap k j:Nat} {nv:Value} {y:Lay} (h:RunR B W rb mb lb n n2 D D2 V M u ls ev fs) (hV:V item = .slice (some ⟨g,o,none⟩) nn cap) (hk:k < (M item).ys.length) (hj:j < 3) (hy:layC y=(layC (M item).ys[k]).set j nv) :
  RunR B (W.setCell ⟨g,o + k * 3 + j,none⟩ nv) rb mb lb n n2 D D2 V (upd M item ⟨(M item).ys.set k y,(M item).price⟩) u ls ev fs:=by
 have hb:(V item).ownBlock=some g:=by rw [hV];rfl
 have keep:∀ i,i ≠ g→(W.setCell ⟨g,o + k * 3 + j,none⟩ nv).heap[i]?=W.heap[i]?:=fun i hi=>Below.heap_setCell _ _ _ _ (by show i ≠ g;exact hi)
 have er:=keep rb (fun e=>h.v1 item (by rw [hb,e]))
 have hl:=h.lay.lay item
 rw [hV] at hl
 have hset:=hl.set k j hk hj nv y hy
 refine ⟨(World.cell?_of_block (a:=⟨rb,0,none⟩) er).trans h.c0,(World.frozen?_of_block (a:=⟨rb,0,none⟩) er).trans h.f0,(World.cell?_of_block (a:=⟨rb,1,none⟩) er).trans h.c1,
  ⟨map_same h.lay.map (keep mb (fun e=>(h.lay.ge item g hb).2 e.symm)),h.lay.at_,fun x=>?_,h.lay.ge,h.lay.ne⟩,map_same h.last (keep lb (fun e=>h.v3 item (by rw [hb,e]))),fun x=>?_,
  row_same h.own (fun i hi=>keep i (fun e=>h.vu item g hb (by rw [hi,e]))),h.evs.same (by simp) (fun i hi=>keep i (fun e=>h.ve item g hb (by rw [hi,e]))),h.d1,h.d2,h.d3,h.u1,h.u2,h.u3,h.v1,h.v3,h.vu,h.e1,h.e2,h.e3,h.ve,h.ue⟩
 ·by_cases e:x=item
  ·subst e;simp only [upd_same];rw [hV];exact hset
  ·simp only [upd_other _ _ _ _ e]
   exact (h.lay.lay x).kept fun i hi=>keep i (fun c=>h.lay.ne x item e i hi (by rw [hb,c]))
 ·by_cases e:x=item
  ·subst e;simp only [upd_same];exact h.pr _
  ·simp only [upd_other _ _ _ _ e];exact h.pr x
def LateP (B:Nat) (w wx:World) (rb mb lb n n2:Nat) (D D2:DataW Value) (V:ByteArray→Value) (M:Stks) (u:Value) (ls:List Lin) (ev:Value) (fs:List Ev) (e:Ev) (xb eb i:Nat):Prop:=
 EvAt wx eb e∧Below w.heap.size w wx ∧
  (((∀ j y,j < i→(M e.item).ys[j]?=some y→y.id ≠ e.ofI)∧RunR B wx rb mb lb n n2 D D2 V M u ls ev fs∧XAt wx xb e.id 0 0 e.price false) ∨
   (hasId e.ofI (M e.item).ys=true∧RunR B wx rb mb lb n n2 D D2 V (upd M e.item ⟨chg e.ofI e.price (M e.item).ys,(M e.item).price⟩) u ls ev fs∧XAt wx xb e.id e.price 0 0 false))
theorem LateP.done {wx:World} {k:Nat} {id qty price ofI day:Int} (hn:n≤k + 1) (hn2:n2≤k + 1) (h:LateP B w wx rb mb lb n n2 D D2 V M u ls ev fs ⟨id,item,2,qty,price,ofI,day⟩ xb eb (M item).ys.length):StepP B w wx rb mb lb k M u ls ev fs ⟨id,item,2,qty,price,ofI,day⟩ xb:=by
 obtain ⟨_,h4,⟨h1,h2,h3⟩ | ⟨h1,h2,h3⟩⟩:=h
 ·have e:doE (M item) ⟨id,item,2,qty,price,ofI,day⟩=(M item,⟨id,0,0,price,false⟩):=by simp [doE,has_none h1]
  have e2:upd M item (M item)=M:=by
   funext z
   by_cases c:z=item
   ·subst c;rw [upd_same]
   ·rw [upd_other _ _ _ _ c]
  refine ⟨n,n2,D,D2,V,hn,hn2,?_,?_,h4⟩
  ·simp only [e,e2];exact h2
  ·simp only [e];exact h3
 ·simp only at h1
  have e:doE (M item) ⟨id,item,2,qty,price,ofI,day⟩=(⟨chg ofI price (M item).ys,(M item).price⟩,⟨id,price,0,0,false⟩):=by simp [doE,h1]
  refine ⟨n,n2,D,D2,V,hn,hn2,?_,?_,h4⟩
  ·simp only [e];exact h2
  ·simp only [e];exact h3
theorem LateP.hit {W6:World} {g o nn cap j:Nat} {id qty price ofI day:Int} {y:Lay} (hE:EvAt W6 eb ⟨id,item,2,qty,price,ofI,day⟩) (hB:Below w.heap.size w W6) (hS:RunR B W6 rb mb lb n n2 D D2 V M u ls ev fs) (hX:XAt W6 xb id 0 0 price false)
  (hV:V item = .slice (some ⟨g,o,none⟩) nn cap) (hj:j < (M item).ys.length) (hy:y=(M item).ys[j]) (hno:∀ i y',i < j→(M item).ys[i]?=some y'→y'.id ≠ ofI) (hid:y.id=ofI) (ha:Apart xb rb mb lb V u ev) (he:∀ x,(V x).ownBlock ≠ some eb) (hxe:xb ≠ eb) (hw:w.heap.size≤xb) (hg:w.heap.size≤g) :
  LateP B w (((W6.setCell ⟨g,o + j * 3 + 2,none⟩ (.int .i64 (y.val + price))).setCell ⟨xb,1,none⟩ (.int .i64 price)).setCell ⟨xb,3,none⟩ (.int .i64 0)) rb mb lb n n2 D D2 V M u ls ev fs ⟨id,item,2,qty,price,ofI,day⟩ xb eb (j + 1) ∧
   EvAt (W6.setCell ⟨g,o + j * 3 + 2,none⟩ (.int .i64 (y.val + price))) eb ⟨id,item,2,qty,price,ofI,day⟩∧XAt (W6.setCell ⟨g,o + j * 3 + 2,none⟩ (.int .i64 (y.val + price))) xb id 0 0 price false:=by
 have hgb:(V item).ownBlock=some g:=by rw [hV];rfl
 have hgx:g ≠ xb:=fun e=>ha.v item (by rw [hgb,e])
 have hge:g ≠ eb:=fun e=>he item (by rw [hgb,e])
 have hgm:g ≠ mb:=(hS.lay.ge item g hgb).2
 have S7:=hS.inpl (nv:=.int .i64 (y.val + price)) (j:=2) (y:=⟨y.id,y.qty,y.val + price⟩) hV hj (by omega) (by rw [← hy];rfl)
 have X7:XAt (W6.setCell ⟨g,o + j * 3 + 2,none⟩ (.int .i64 (y.val + price))) xb id 0 0 price false:=hX.kept (Below.heap_setCell _ _ _ _ (by show xb ≠ g;exact hgx.symm))
 have E7:EvAt (W6.setCell ⟨g,o + j * 3 + 2,none⟩ (.int .i64 (y.val + price))) eb ⟨id,item,2,qty,price,ofI,day⟩:=evAt_blk hE (Below.heap_setCell _ _ _ _ (by show eb ≠ g;exact hge.symm))
 have B7:Below w.heap.size w (W6.setCell ⟨g,o + j * 3 + 2,none⟩ (.int .i64 (y.val + price))):=below_set hB hg
 have hc:chg ofI price (M item).ys=(M item).ys.set j ⟨y.id,y.qty,y.val + price⟩:=by
  rw [chg_set ofI price (M item).ys j hj hno (by rw [← hy];exact hid),← hy]
 rw [← hc] at S7
 have T1:=wrote S7 (X7.s1 price) E7 ha hxe B7 hw
 have T2:=wrote T1.1 (T1.2.1.s3 0) T1.2.2.1 ha hxe T1.2.2.2 hw
 exact ⟨⟨T2.2.2.1,T2.2.2.2,Or.inr ⟨has_at hj (by rw [← hy];exact hid),T2.1,T2.2.1⟩⟩,E7,X7⟩
end
end Go.Proofs.YtdkhohlhdiekmaaGreatDoor
namespace Go.Proofs.YtdkhohlhdiekmaaGreatDoor
open Go.RowKit Go.Maps
structure Dels (D:DataW Value) (left:Lit→Bool) (V:ByteArray→Value) (M:Stks):Prop where
 has_:∀ x,(M x).ys ≠ []→has D (keyB x)=true
 al:∀ x,has D (keyB x)=true→∀ z,D.atKey (keyB x) z = .held (V x)
 no:∀ x,(M x).ys=[]→left (keyB x)=false→has D (keyB x)=false
theorem atKey_any {D:DataW Value} {k:Lit} (h:has D k=true) (z z':DataW Value):D.atKey k z=D.atKey k z':=by
 cases D <;> try (cases h)
 rename_i es
 rw [has_eq,List.any_eq_true] at h
 obtain ⟨p,hp,hs⟩:=h
 cases hf:es.find? (fun p=>p.1.sameKey k) with
 | some q=>simp only [DataW.atKey,hf]
 | none=>
  rw [List.find?_eq_none] at hf
  exact absurd hs (hf p hp)
theorem Dels.start {B:Nat} {W:World} {mb n:Nat} {D:DataW Value} {V:ByteArray→Value} {M:Stks} (h:RLay B W mb n D V fun x=>(M x).ys):Dels D (has D) V M:=by
 refine ⟨fun x hx=>?_,fun x hx z=>by rw [atKey_any hx z (.held (.slice none 0 0)),h.at_],fun x _ hl=>hl⟩
 cases e:has D (keyB x)
 ·refine absurd ?_ hx
  have e1:=h.at_ x
  rw [atKey_of_not_has e] at e1
  have l:=h.lay x
  rw [← held_inj e1] at l
  rcases l.form with ⟨_,y⟩ | ⟨_,_,_,y,_⟩
  ·exact y
  ·cases y
 ·rfl
theorem left_other {left:Lit→Bool} {x y:ByteArray} (h:(left (keyB y) && !(keyB y).sameKey (keyB x))=false) (hne:y ≠ x):left (keyB y)=false:=by
 rw [sameKey_ne (fun e=>hne (keyB_inj e))] at h
 simpa using h
theorem Dels.drop {D:DataW Value} {left:Lit→Bool} {V:ByteArray→Value} {M:Stks} (h:Dels D left V M) (x:ByteArray) (hx:(M x).ys=[]):Dels (D.del (keyB x)) (fun z=>left z && !z.sameKey (keyB x)) V M:=by
 refine ⟨fun y hy=>?_,fun y hy z=>?_,fun y hy hl=>?_⟩
 ·have hne:keyB y ≠ keyB x:=fun e=>hy (by rw [keyB_inj e];exact hx)
  rw [has_del_other hne];exact h.has_ y hy
 ·have hne:keyB y ≠ keyB x:=fun e=>by rw [e,has_del_same] at hy;cases hy
  rw [has_del_other hne] at hy
  rw [atKey_del_other hne];exact h.al y hy z
 ·by_cases e:y=x
  ·subst e;exact has_del_same
  ·rw [has_del_other (fun c=>e (keyB_inj c))]
   exact h.no y hy (left_other hl e)
theorem Dels.keep {D:DataW Value} {left:Lit→Bool} {V:ByteArray→Value} {M:Stks} (h:Dels D left V M) (x:ByteArray) (hx:(M x).ys ≠ []):Dels D (fun z=>left z && !z.sameKey (keyB x)) V M:=
 ⟨h.has_,h.al,fun y hy hl=>h.no y hy (left_other hl (fun e=>hx (by rw [← e];exact hy)))⟩
theorem grownT {a b c:World} {m:Option Nat} (h1:a.grownBy b m) (h2:b.grownBy c m):a.grownBy c m:=
 ⟨h2.os.trans h1.os,h2.tape.trans h1.tape,h2.output.trans h1.output,Nat.le_trans h1.size h2.size,fun k hk hm=>(h2.block k (Nat.lt_of_lt_of_le hk h1.size) hm).trans (h1.block k hk hm)⟩
theorem grownI {a b c:World} {m:Option Nat} {r:Nat} (h1:a.grownBy b m) (h2:b.grownBy c (some r)) (hr:a.heap.size≤r):a.grownBy c m:=
 ⟨h2.os.trans h1.os,h2.tape.trans h1.tape,h2.output.trans h1.output,Nat.le_trans h1.size h2.size,fun k hk hm=>(h2.block k (Nat.lt_of_lt_of_le hk h1.size) (by intro e;injection e;omega)).trans (h1.block k hk hm)⟩
theorem own_low2 {w:World} {B b:Nat} {T:TypeId} {m n:Nat} {v:Value} {xs:List Value} (h:w.ownsRow b T m v n xs) (hB:B≤b):w.ownsRow B T m v n xs:=own_below h (Below.refl _ _) hB
end Go.Proofs.YtdkhohlhdiekmaaGreatDoor
