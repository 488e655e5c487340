/-  -/
import Derived.Test.YtbleojodidbhiaaGreatDoorBnA
import Derived.Test.YtbleojodidbhiaaGreatDoorBnB
import Derived.Test.YtbleojodidbhiaaGreatDoorBnC
namespace Go.Proofs.YtbleojodidbhiaaGreatDoor
open Go.RowKit
theorem flat_len {α:Type} (f:α→List Value) (m:Nat) (hf:∀ x,(f x).length=m):∀ l:List α,(l.flatMap f).length=l.length * m
 | []=>by simp
 | x :: l=>by simp only [List.flatMap_cons,List.length_append,hf,flat_len f m hf l,List.length_cons];rw [Nat.add_mul,Nat.one_mul,Nat.add_comm]
theorem flat_get {α:Type} (f:α→List Value) (m:Nat) (hf:∀ x,(f x).length=m):∀ (l:List α) (k j:Nat) (hk:k < l.length),j < m→(l.flatMap f)[k * m + j]?=(f l[k])[j]?
 | [],k,j,hk,_=>absurd hk (Nat.not_lt_zero _)
 | x :: l,0,j,_,hj=>by
  rw [List.flatMap_cons,Nat.zero_mul,Nat.zero_add,List.getElem?_append_left (by rw [hf];exact hj)];rfl
 | x :: l,k + 1,j,hk,hj=>by
  have e:(k + 1) * m + j=m + (k * m + j):=by rw [Nat.add_mul,Nat.one_mul];omega
  rw [List.flatMap_cons,e,List.getElem?_append_right (by rw [hf];omega),hf,Nat.add_sub_cancel_left]
  exact flat_get f m hf l k j (by simpa using hk) hj
theorem own_cell {α:Type} {w:World} {B:Nat} {T:TypeId} {m g n cap:Nat} {f:α→List Value} {l:List α} (hf:∀ x,(f x).length=m) (h:w.ownsRow B T m (.slice (some ⟨g,0,none⟩) n cap) n (l.flatMap f)) (k j:Nat) (hk:k < l.length) (hj:j < m) :
  w.cell? ⟨g,k * m + j,none⟩=(f l[k])[j]?∧w.frozen? ⟨g,k * m + j,none⟩=false:=by
 have hl:=h.1
 rw [flat_len f m hf] at hl
 rcases h.2 with ⟨hv,_⟩ | ⟨g',cap',cur,hv,_,hg,hn,_,hs,ht⟩
 ·cases hv
 ·cases hv
  have hlt:k * m + j < (l.flatMap f).length:=by
   rw [flat_len f m hf]
   have:=Nat.mul_le_mul_right m (show k + 1≤l.length from hk)
   rw [Nat.add_mul,Nat.one_mul] at this
   omega
  have hc:cur[k * m + j]?=(l.flatMap f)[k * m + j]?:=by
   rw [← ht,List.getElem?_take_of_lt (by rw [← hl,← flat_len f m hf];exact hlt),Array.getElem?_toList]
  refine ⟨?_,?_⟩
  ·simp only [World.cell?,hg]
   rw [show (Option.isSome (none:Option _))=false from rfl]
   simp only [Bool.false_eq_true,if_false]
   rw [hc,flat_get f m hf l k j hk hj]
  ·simp [World.frozen?,hg]
theorem own_count {α:Type} {w:World} {B:Nat} {T:TypeId} {m n:Nat} {v:Value} {f:α→List Value} {l:List α} (hf:∀ x,(f x).length=m) (hm:0 < m) (h:w.ownsRow B T m v n (l.flatMap f)):n=l.length:=by
 have hl:=h.1
 rw [flat_len f m hf] at hl
 exact (Nat.eq_of_mul_eq_mul_right hm hl).symm
theorem own_form {w:World} {B:Nat} {T:TypeId} {m n:Nat} {v:Value} {xs:List Value} (h:w.ownsRow B T m v n xs) :
  (v = .slice none 0 0∧n=0∧xs=[])∨∃ g cap,v = .slice (some ⟨g,0,none⟩) n cap∧B≤g∧g < w.heap.size∧n≤cap∧cap≤maxLen:=by
 rcases h.2 with ⟨hv,hn⟩ | ⟨g,cap,cur,hv,hB,hg,hn,hm,hs,ht⟩
 ·refine Or.inl ⟨hv,hn,?_⟩
  have:=h.1
  rw [hn,Nat.zero_mul] at this
  exact List.length_eq_zero_iff.1 this
 ·exact Or.inr ⟨g,cap,hv,hB,(Array.getElem?_eq_some_iff.1 hg).1,hn,hm⟩
theorem own_below {w w':World} {B b:Nat} {T:TypeId} {m n:Nat} {v:Value} {xs:List Value} (h:w.ownsRow b T m v n xs) (hb:Below w.heap.size w w') (hB:B≤b):w'.ownsRow B T m v n xs:=by
 refine ⟨h.1,?_⟩
 rcases h.2 with hn | ⟨g,cap,cur,hv,hBg,hg,rest⟩
 ·exact Or.inl hn
 ·refine Or.inr ⟨g,cap,cur,hv,Nat.le_trans hB hBg,?_,rest⟩
  rw [hb.block g (Array.getElem?_eq_some_iff.1 hg).1];exact hg
theorem cells_of_list {w:World} {b:Nat} {cs:List Value} {T:TypeId} (hb:b=w.heap.size):∀ j u,cs[j]?=some u→(w.alloc (.cells cs.toArray T)).cell? ((⟨b,0,none⟩:Addr).add j)=some u:=by
 intro j u hj
 subst hb
 rw [Addr.add_lit,Nat.zero_add,World.cell?_alloc_at _ _ _ _ (by rfl)]
 simpa using hj
structure Vr where
 ev:Ev
 fr:Int
 to:Int
 deriving Inhabited
structure Bk where
 vs:List Vr
 n:Int
 g:Int
def evC (e:Ev):List Value:=[.int .i64 e.id,.string e.item,.int .i64 e.kind,.int .i64 e.qty,.int .i64 e.price,.int .i64 e.ofI,.int .i64 e.day]
def vrC (v:Vr):List Value:=[.int .i64 v.ev.id,.string v.ev.item,.int .i64 v.ev.kind,.int .i64 v.ev.qty,.int .i64 v.ev.price,.int .i64 v.ev.ofI,.int .i64 v.ev.day,.int .i64 v.fr,.int .i64 v.to]
def vrV (v:Vr):Value:=.agg #[.int .i64 v.ev.id,.string v.ev.item,.int .i64 v.ev.kind,.int .i64 v.ev.qty,.int .i64 v.ev.price,.int .i64 v.ev.ofI,.int .i64 v.ev.day,.int .i64 v.fr,.int .i64 v.to]
theorem evC_len (e:Ev):(evC e).length=7:=rfl
theorem vrC_len (v:Vr):(vrC v).length=9:=rfl
theorem evC_one (e:Ev):∀ u ∈ evC e,u.oneCell'=true:=by
 intro u hu
 simp only [evC,List.mem_cons,List.not_mem_nil,or_false] at hu
 rcases hu with rfl | rfl | rfl | rfl | rfl | rfl | rfl <;> rfl
theorem vrC_one (e:Vr):∀ u ∈ vrC e,u.oneCell'=true:=by
 intro u hu
 simp only [vrC,List.mem_cons,List.not_mem_nil,or_false] at hu
 rcases hu with rfl | rfl | rfl | rfl | rfl | rfl | rfl | rfl | rfl <;> rfl
def isH (id:Int) (v:Vr):Bool:=decide (v.ev.id=id)
structure Turned (w w':World) (pb:Nat) (sv:Value):Prop where
 os:w'.os=w.os
 tape:w'.tape=w.tape
 output:w'.output=w.output
 size:w.heap.size≤w'.heap.size
 block:∀ k,k < w.heap.size→k ≠ pb→sv.ownBlock ≠ some k→w'.heap[k]?=w.heap[k]?
theorem Turned.of_below {w w':World} {pb:Nat} {sv:Value} (h:Below w.heap.size w w'):Turned w w' pb sv:=⟨h.os,h.tape,h.output,h.size,fun k hk _ _=>h.block k hk⟩
theorem Turned.refl (w:World) (pb:Nat) (sv:Value):Turned w w pb sv:=.of_below (Below.refl _ _)
theorem Turned.trans {a b c:World} {pb:Nat} {sv sv':Value} (h:Turned a b pb sv) (h':Turned b c pb sv') (hf:Fresh a sv sv'):Turned a c pb sv:=
 ⟨h'.os.trans h.os,h'.tape.trans h.tape,h'.output.trans h.output,Nat.le_trans h.size h'.size,fun k hk hp hs=>
  (h'.block k (Nat.lt_of_lt_of_le hk h.size) hp (fun e=>by rcases hf k e with h | h;exact hs h;omega)).trans (h.block k hk hp hs)⟩
theorem set_same {w:World} {a:Addr} {v u:Value} (h:w.cell? a=some u):(w.setCell a v).cell? a=some v:=World.cell?_setCell_same w a v h
theorem set_other {w:World} {a b:Addr} {v:Value} (h:a ≠ b):(w.setCell a v).cell? b=w.cell? b:=World.cell?_setCell_other w a b v h
theorem set_frz {w:World} {a b:Addr} {v:Value}:(w.setCell a v).frozen? b=w.frozen? b:=by simp
theorem turned_set (w:World) (pb o:Nat) (sv v:Value):Turned w (w.setCell ⟨pb,o,none⟩ v) pb sv:=
 ⟨rfl,rfl,rfl,by simp [World.setCell],fun k _ hk _=>Below.heap_setCell _ _ _ _ hk⟩
theorem turned_row (w:World) (g o pb:Nat) (sv v:Value) (h:sv.ownBlock=some g):Turned w (w.setCell ⟨g,o,none⟩ v) pb sv:=
 ⟨rfl,rfl,rfl,by simp [World.setCell],fun k _ _ hk=>Below.heap_setCell _ _ _ _ (fun e=>hk (by rw [h];simp [e]))⟩
theorem flatMap_set {α:Type} (f:α→List Value) (m:Nat) (hf:∀ x,(f x).length=m) (j:Nat) (u:Value) (hj:j < m) (y:α):∀ (l:List α) (k:Nat) (hk:k < l.length),f y=(f l[k]).set j u→(l.set k y).flatMap f=(l.flatMap f).set (k * m + j) u
 | [],k,hk,_=>absurd hk (Nat.not_lt_zero _)
 | x :: l,0,hk,h=>by
  simp only [List.set_cons_zero,List.flatMap_cons,Nat.zero_mul,Nat.zero_add]
  rw [List.set_append_left _ _ (by rw [hf];exact hj),h];rfl
 | x :: l,k + 1,hk,h=>by
  simp only [List.set_cons_succ,List.flatMap_cons]
  have e:(k + 1) * m + j=m + (k * m + j):=by rw [Nat.add_mul,Nat.one_mul];omega
  rw [List.set_append_right _ _ (by rw [hf];omega),hf,e,Nat.add_sub_cancel_left,flatMap_set f m hf j u hj y l k (by simpa using hk) h]
theorem own_set {w:World} {B:Nat} {T:TypeId} {m g n cap:Nat} {xs:List Value} (h:w.ownsRow B T m (.slice (some ⟨g,0,none⟩) n cap) n xs) (o:Nat) (u:Value) :
  (w.setCell ⟨g,o,none⟩ u).ownsRow B T m (.slice (some ⟨g,0,none⟩) n cap) n (xs.set o u):=by
 refine ⟨by rw [List.length_set];exact h.1,?_⟩
 rcases h.2 with ⟨hv,_⟩ | ⟨g',cap',cur,hv,hB,hg,hn,hm,hs,ht⟩
 ·cases hv
 ·cases hv
  refine Or.inr ⟨g,cap,cur.setIfInBounds o u,rfl,hB,?_,hn,hm,by simpa using hs,?_⟩
  ·simp only [World.setCell,Array.getElem?_modify,if_pos,hg,Option.map_some]
   rfl
  ·rw [Array.toList_setIfInBounds,List.take_set,ht]
theorem grown_turned {w w':World} {pb:Nat} {sv:Value} (h:w.grownBy w' sv.ownBlock):Turned w w' pb sv:=⟨h.os,h.tape,h.output,h.size,fun k hk _ hs=>h.block k hk (fun e=>hs e.symm)⟩
structure TurnI (lo hi:Nat) (w w':World) (pb:Nat) (sv:Value):Prop extends Turned w w' pb sv where
 rest:pb < w.heap.size→sv.ownBlock ≠ some pb→∀ o,(o < lo∨hi≤o)→w'.cell? ⟨pb,o,none⟩=w.cell? ⟨pb,o,none⟩
 frz:pb < w.heap.size→sv.ownBlock ≠ some pb→∀ o,w'.frozen? ⟨pb,o,none⟩=w.frozen? ⟨pb,o,none⟩
theorem TurnI.of_same {lo hi:Nat} {w w':World} {pb:Nat} {sv:Value} (t:Turned w w' pb sv) (h:pb < w.heap.size→sv.ownBlock ≠ some pb→w'.heap[pb]?=w.heap[pb]?):TurnI lo hi w w' pb sv:=
 ⟨t,fun hl hn o _=>World.cell?_of_block (a:=⟨pb,o,none⟩) (h hl hn),fun hl hn o=>World.frozen?_of_block (a:=⟨pb,o,none⟩) (h hl hn)⟩
theorem TurnI.of_below {lo hi:Nat} {w w':World} {pb:Nat} {sv:Value} (h:Below w.heap.size w w'):TurnI lo hi w w' pb sv:=.of_same (.of_below h) fun hl _=>h.block pb hl
theorem TurnI.refl {lo hi:Nat} (w:World) (pb:Nat) (sv:Value):TurnI lo hi w w pb sv:=.of_below (Below.refl _ _)
theorem TurnI.trans {lo hi:Nat} {a b c:World} {pb:Nat} {sv sv':Value} (h:TurnI lo hi a b pb sv) (h':TurnI lo hi b c pb sv') (hf:Fresh a sv sv'):TurnI lo hi a c pb sv:=by
 have hn':pb < a.heap.size→sv.ownBlock ≠ some pb→sv'.ownBlock ≠ some pb:=fun hl hn e=>by
  rcases hf pb e with x | x
  ·exact hn x
  ·omega
 exact ⟨h.toTurned.trans h'.toTurned hf,fun hl hn o ho=>(h'.rest (Nat.lt_of_lt_of_le hl h.size) (hn' hl hn) o ho).trans (h.rest hl hn o ho),fun hl hn o=>(h'.frz (Nat.lt_of_lt_of_le hl h.size) (hn' hl hn) o).trans (h.frz hl hn o)⟩
theorem turnI_set {lo hi:Nat} (w:World) (pb o:Nat) (sv v:Value) (ho:lo≤o∧o < hi:=by decide):TurnI lo hi w (w.setCell ⟨pb,o,none⟩ v) pb sv:=
 ⟨turned_set _ _ _ _ _,fun _ _ o' ho'=>set_other (fun e=>by injection e with _ e2;omega),fun _ _ _=>set_frz⟩
theorem turnI_row {lo hi:Nat} (w:World) (g o pb:Nat) (sv v:Value) (h:sv.ownBlock=some g):TurnI lo hi w (w.setCell ⟨g,o,none⟩ v) pb sv:=
 .of_same (turned_row _ _ _ _ _ _ h) fun _ hn=>Below.heap_setCell _ _ _ _ (fun e=>hn (by rw [h];simp [e]))
theorem grown_turnI {lo hi:Nat} {w w':World} {pb:Nat} {sv:Value} (h:w.grownBy w' sv.ownBlock):TurnI lo hi w w' pb sv:=.of_same (grown_turned h) fun hl hn=>h.block pb hl (fun e=>hn e.symm)
def EvsAt (w:World) (v:Value) (l:List Ev):Prop:=
 (v = .slice none 0 0∧l=[])∨∃ g o cap,v = .slice (some ⟨g,o,none⟩) l.length cap∧g < w.heap.size∧∀ k j (hk:k < l.length),j < 7→w.cell? ⟨g,o + k * 7 + j,none⟩=(evC l[k])[j]?
theorem EvsAt.below {w w':World} {v:Value} {l:List Ev} (h:EvsAt w v l) (hb:Below w.heap.size w w'):EvsAt w' v l:=by
 rcases h with h | ⟨g,o,cap,rfl,hg,hc⟩
 ·exact Or.inl h
 ·exact Or.inr ⟨g,o,cap,rfl,Nat.lt_of_lt_of_le hg hb.size,fun k j hk hj=>(hb.cell (p:=⟨g,o + k * 7 + j,none⟩) hg).trans (hc k j hk hj)⟩
theorem EvsAt.of_own {w:World} {B:Nat} {v:Value} {l:List Ev} (h:w.ownsRow B 93 7 v l.length (l.flatMap evC)):EvsAt w v l:=by
 rcases own_form h with ⟨hv,hn,_⟩ | ⟨g,cap,hv,_,hgl,_⟩
 ·exact Or.inl ⟨hv,List.length_eq_zero_iff.1 hn⟩
 ·subst hv
  exact Or.inr ⟨g,0,cap,rfl,hgl,fun k j hk hj=>by rw [Nat.zero_add];exact (own_cell evC_len h k j hk hj).1⟩
noncomputable def rtB (e:Ev):Bool:=@decide (Rt e) (Classical.propDecidable _)
theorem rtB_iff (e:Ev):rtB e=true ↔ Rt e:=by unfold rtB;simp
def EvsC (w:World) (ao:Option Addr) (l:List Ev):Prop:=0 < l.length→∃ b off,ao=some ⟨b,off,none⟩∧b < w.heap.size∧∀ k (hk:k < l.length) j,j < 7→w.cell? ⟨b,off + k * 7 + j,none⟩=(evC l[k])[j]?
theorem EvsC.below {w w':World} {ao:Option Addr} {l:List Ev} (h:EvsC w ao l) (hb:Below w.heap.size w w'):EvsC w' ao l:=fun hp=>by
 obtain ⟨b,off,e,hlt,hc⟩:=h hp
 exact ⟨b,off,e,Nat.lt_of_lt_of_le hlt hb.size,fun k hk j hj=>(hb.cell (p:=⟨b,off + k * 7 + j,none⟩) hlt).trans (hc k hk j hj)⟩
theorem EvsAt.toC {w:World} {v:Value} {l:List Ev} (h:EvsAt w v l):∃ ao cap,v = .slice ao l.length cap∧EvsC w ao l:=by
 rcases h with ⟨rfl,rfl⟩ | ⟨g,o,cap,rfl,hg,hc⟩
 ·exact ⟨none,0,rfl,fun h=>absurd h (Nat.lt_irrefl _)⟩
 ·exact ⟨_,cap,rfl,fun _=>⟨g,o,rfl,hg,fun k hk j hj=>hc k j hk hj⟩⟩
end Go.Proofs.YtbleojodidbhiaaGreatDoor
namespace Go.Proofs.YtbleojodidbhiaaGreatDoor
open Go.RowKit
def layC (y:Lay):List Value:=[.int .i64 y.id,.int .i64 y.qty,.int .i64 y.val]
def linC (y:Lin):List Value:=[.int .i64 y.id,.int .i64 y.val,.int .i64 y.short,.int .i64 y.late,.bool y.gain]
theorem layC_len (y:Lay):(layC y).length=3:=rfl
theorem linC_len (y:Lin):(linC y).length=5:=rfl
theorem layC_one (y:Lay):∀ u ∈ layC y,u.oneCell'=true:=by
 intro u hu
 simp only [layC,List.mem_cons,List.not_mem_nil,or_false] at hu
 rcases hu with rfl | rfl | rfl <;> rfl
theorem linC_one (y:Lin):∀ u ∈ linC y,u.oneCell'=true:=by
 intro u hu
 simp only [linC,List.mem_cons,List.not_mem_nil,or_false] at hu
 rcases hu with rfl | rfl | rfl | rfl | rfl <;> rfl
def LayAt (w:World) (v:Value) (ys:List Lay):Prop:=
 (v = .slice none 0 0∧ys=[])∨∃ g o cap cur,v = .slice (some ⟨g,o,none⟩) ys.length cap∧w.heap[g]?=some (.cells cur 294 (0,0))∧ys.length≤cap∧cap≤maxLen∧o + cap * 3≤cur.size∧(cur.toList.drop o).take (ys.length * 3)=ys.flatMap layC
theorem LayAt.nil (w:World):LayAt w (.slice none 0 0) []:=Or.inl ⟨rfl,rfl⟩
theorem LayAt.lt {w:World} {v:Value} {ys:List Lay} (h:LayAt w v ys) {k:Nat} (hk:v.ownBlock=some k):k < w.heap.size:=by
 rcases h with ⟨rfl,_⟩ | ⟨g,o,cap,cur,rfl,hg,_⟩
 ·cases hk
 ·have:g=k:=by simpa [Value.ownBlock] using hk
  subst this
  exact (Array.getElem?_eq_some_iff.1 hg).1
theorem LayAt.form {w:World} {v:Value} {ys:List Lay} (h:LayAt w v ys):(v = .slice none 0 0∧ys=[])∨∃ g o cap,v = .slice (some ⟨g,o,none⟩) ys.length cap∧g < w.heap.size∧ys.length≤cap∧cap≤maxLen:=by
 rcases h with h | ⟨g,o,cap,cur,rfl,hg,h1,h2,_⟩
 ·exact Or.inl h
 ·exact Or.inr ⟨g,o,cap,rfl,(Array.getElem?_eq_some_iff.1 hg).1,h1,h2⟩
theorem LayAt.slice {w:World} {v:Value} {ys:List Lay} (h:LayAt w v ys):∃ ad n cap,v = .slice ad n cap:=by
 rcases h with ⟨rfl,rfl⟩ | ⟨g,o,cap,cur,rfl,_⟩
 ·exact ⟨none,0,0,rfl⟩
 ·exact ⟨_,_,_,rfl⟩
theorem LayAt.kept {w w':World} {v:Value} {ys:List Lay} (h:LayAt w v ys) (hk:∀ k,v.ownBlock=some k→w'.heap[k]?=w.heap[k]?):LayAt w' v ys:=by
 rcases h with h | ⟨g,o,cap,cur,rfl,hg,rest⟩
 ·exact Or.inl h
 ·exact Or.inr ⟨g,o,cap,cur,rfl,by rw [hk g rfl];exact hg,rest⟩
theorem LayAt.below {w w':World} {v:Value} {ys:List Lay} (h:LayAt w v ys) (hb:Below w.heap.size w w'):LayAt w' v ys:=h.kept fun k hk=>hb.block k (h.lt hk)
theorem LayAt.turned {w w':World} {v sv:Value} {pb:Nat} {ys:List Lay} (h:LayAt w v ys) (ht:Turned w w' pb sv) (h1:v.ownBlock ≠ some pb) (h2:v.ownBlock=none∨v.ownBlock ≠ sv.ownBlock):LayAt w' v ys:=
 h.kept fun k hk=>ht.block k (h.lt hk) (fun e=>h1 (by rw [hk,e])) (fun e=>by
  rcases h2 with h2 | h2
  ·rw [h2] at hk;cases hk
  ·exact h2 (by rw [hk,e]))
theorem LayAt.cell {w:World} {g o n cap:Nat} {ys:List Lay} (h:LayAt w (.slice (some ⟨g,o,none⟩) n cap) ys) (k j:Nat) (hk:k < ys.length) (hj:j < 3) :
  w.cell? ⟨g,o + k * 3 + j,none⟩=(layC ys[k])[j]?∧w.frozen? ⟨g,o + k * 3 + j,none⟩=false:=by
 rw [Nat.add_assoc]
 rcases h with ⟨h,_⟩ | ⟨g',o',cap',cur,hv,hg,h1,h2,h3,h4⟩
 ·cases h
 ·cases hv
  refine ⟨?_,by simp [World.frozen?,hg]⟩
  have hx:=flat_get layC 3 layC_len ys k j hk hj
  rw [← h4,List.getElem?_take_of_lt (by omega),List.getElem?_drop,Array.getElem?_toList] at hx
  simp only [World.cell?,hg]
  rw [show (Option.isSome (none:Option _))=false from rfl]
  simp only [Bool.false_eq_true,if_false]
  exact hx
theorem LayAt.set {w:World} {g o n cap:Nat} {ys:List Lay} (h:LayAt w (.slice (some ⟨g,o,none⟩) n cap) ys) (k j:Nat) (hk:k < ys.length) (hj:j < 3) (u:Value) (y:Lay) (hy:layC y=(layC ys[k]).set j u) :
  LayAt (w.setCell ⟨g,o + k * 3 + j,none⟩ u) (.slice (some ⟨g,o,none⟩) n cap) (ys.set k y):=by
 rw [Nat.add_assoc]
 rcases h with ⟨h,_⟩ | ⟨g',o',cap',cur,hv,hg,h1,h2,h3,h4⟩
 ·cases h
 ·cases hv
  refine Or.inr ⟨g,o,cap,cur.set! (o + (k * 3 + j)) u,by rw [List.length_set],?_,by rw [List.length_set];exact h1,h2,by simpa using h3,?_⟩
  ·have hgl:=(Array.getElem?_eq_some_iff.1 hg).1
   simp [World.setCell,Array.getElem?_modify,hg]
  ·rw [List.length_set,flatMap_set layC 3 layC_len j u hj y ys k hk hy,← h4]
   simp only [Array.set!_eq_setIfInBounds,Array.toList_setIfInBounds]
   rw [List.drop_set]
   rw [if_neg (by omega),show o + (k * 3 + j) - o=k * 3 + j by omega,List.take_set]
theorem LayAt.tail {w:World} {g o n cap:Nat} {y:Lay} {ys:List Lay} (h:LayAt w (.slice (some ⟨g,o,none⟩) n cap) (y :: ys)) :
  LayAt w (.slice (some ⟨g,if cap=1 then o else o + 3,none⟩) ys.length (cap - 1)) ys:=by
 rcases h with ⟨h,_⟩ | ⟨g',o',cap',cur,hv,hg,h1,h2,h3,h4⟩
 ·cases h
 ·cases hv
  simp only [List.length_cons] at h1 h4
  refine Or.inr ⟨g,_,cap - 1,cur,rfl,hg,by omega,by omega,?_,?_⟩
  ·split <;> omega
  ·by_cases hc:cap=1
   ·have:ys=[]:=List.length_eq_zero_iff.1 (by omega)
    subst this
    simp
   ·rw [if_neg hc]
    have e:((cur.toList.drop o).take ((ys.length + 1) * 3)).drop 3=((y :: ys).flatMap layC).drop 3:=by rw [h4]
    rw [List.drop_take,List.drop_drop] at e
    rw [show (ys.length + 1) * 3 - 3=ys.length * 3 by omega] at e
    rw [e,List.flatMap_cons,List.drop_append_of_le_length (by simp [layC])]
    simp [layC]
section
variable {P:Program} (w:World)
theorem run_append_room_at (t ty e:TypeId) (i:TypeInfo) (ht:P.underlying t=some (.slice e)) (hi:P.info? e=some i)
  (g o sLen sCap:Nat) (cur:Array Value) (hg:w.heap[g]?=some (.cells cur e (0,0)))
  (a:Addr) (m c:Nat) (news:List Value) (hl:news.length=m * i.size) (hnews:∀ j u,news[j]?=some u→w.cell? (a.add j)=some u) (h1:∀ u ∈ news,u.oneCell'=true)
  (hroom:sLen + m≤sCap) (hfit:o + sLen * i.size + news.length≤cur.size) :
  (Builtin.append_ #[t,t] ty #[.slice (some ⟨g,o,none⟩) sLen sCap,.slice (some a) m c]).run P w =
   .ok (.slice (some ⟨g,o,none⟩) (sLen + m) sCap) (w.setRow g (cur.toList.take (o + sLen * i.size) ++ news ++ cur.toList.drop (o + sLen * i.size + news.length)).toArray):=by
 have hf:=run_firstCells_some (P:=P) w i.size m a m c news hl hnews
 have hst:=run_storeCells_at P g (o + sLen * i.size) e news 0 cur w hg (by simpa using hfit) h1
 simp only [Nat.add_zero] at hst
 simp [Builtin.append_,run_underlying ht,sizeOf,typeInfo,hi,Builtin.lenOf,hroom,hf,Addr.add_lit,hst]
theorem LayAt.holds {w:World} {g o n cap:Nat} {ys:List Lay} (h:LayAt w (.slice (some ⟨g,o,none⟩) n cap) ys):∀ j u,(ys.flatMap layC)[j]?=some u→w.cell? ((⟨g,o,none⟩:Addr).add j)=some u:=by
 rcases h with ⟨h,_⟩ | ⟨g',o',cap',cur,hv,hg,h1,h2,h3,h4⟩
 ·cases h
 ·cases hv
  intro j u hu
  have hadd:(⟨g,o,none⟩:Addr).add j=⟨g,o + j,none⟩:=by unfold Addr.add;split <;> simp_all
  rw [hadd]
  rw [← h4,List.getElem?_take] at hu
  split at hu
  ·rw [List.getElem?_drop,Array.getElem?_toList] at hu
   simp only [World.cell?,hg]
   rw [show (Option.isSome (none:Option _))=false from rfl]
   simp only [Bool.false_eq_true,if_false]
   exact hu
  ·cases hu
theorem lay_grown (t:TypeId) (ht:t=294) (w':World) (xs:List Lay) (g:Nat) (zs:Array Value) (cap:Nat) (hg:w'.heap[g]?=some (.cells ((xs.flatMap layC).toArray ++ zs) t)) (h1:xs.length≤cap) (h2:cap≤maxLen) (h3:zs.size=(cap - xs.length) * 3):LayAt w' (.slice (some ⟨g,0,none⟩) xs.length cap) xs:=by
 subst ht
 have hl:=flat_len layC 3 layC_len xs
 refine Or.inr ⟨g,0,cap,_,rfl,hg,h1,h2,?_,?_⟩
 ·simp only [Array.size_append,List.size_toArray,hl,h3];omega
 ·rw [List.drop_zero,← hl]
  simp only [Array.toList_append]
  exact List.take_left
theorem wpList_append_lay {ops:Array Oper} {rest:List Oper} {op:Oper} {a:Act} {Q:Exit→Act→World→Prop} (hgd:op.guard=none) (s x:Operand) (t:TypeId)
  (ho:op.op = .call { callee:=.builtin .append,args:=#[s,x],argTypes:=#[t,t] })
  (i:TypeInfo) (z:Value) (ht:P.underlying t=some (.slice 294)) (hi:P.info? 294=some i) (hz:i.zero=some z)
  (hsize:i.size=3) (hby:i.bytes=24) (hzs:z.cells.size=3)
  (v:Value) (ys:List Lay) (hs:a.eval s=v) (h:LayAt w v ys) (hlen:ys.length≤1000000)
  (ad:Addr) (c:Nat) (y:Lay) (hx:a.eval x = .slice (some ad) 1 c) (hnews:∀ j u,(layC y)[j]?=some u→w.cell? (ad.add j)=some u)
  (hK:∀ v' w',LayAt w' v' (ys ++ [y])→w.grownBy w' v.ownBlock→Fresh w v v'→wpList P ops Q rest (a.put op.dst v') w'):wpList P ops Q (op :: rest) a w:=by
 have key:∃ v' w',(Builtin.append_ #[t,t] op.type #[v,.slice (some ad) 1 c]).run P w = .ok v' w'∧LayAt w' v' (ys ++ [y])∧w.grownBy w' v.ownBlock∧Fresh w v v':=by
  have hm:(1000001:Nat)≤maxLen:=by simp [maxLen]
  have hl:(layC y).length=1 * i.size:=by rw [hsize];rfl
  have hgn:∀ (old:Nat),old < ys.length + 1→∀ row:Option Nat,LayAt (w.drew.alloc (.cells ((ys.flatMap layC).toArray ++ (layC y).toArray ++ Builtin.zeroCells z.cells (grownCap w (ys.length + 1) old 294 - (ys.length + 1))) 294)) (.slice (some ⟨w.heap.size,0,none⟩) (ys.length + 1) (grownCap w (ys.length + 1) old 294)) (ys ++ [y])
    ∧ w.grownBy (w.drew.alloc (.cells ((ys.flatMap layC).toArray ++ (layC y).toArray ++ Builtin.zeroCells z.cells (grownCap w (ys.length + 1) old 294 - (ys.length + 1))) 294)) row:=fun old ho row=>by
   have hge:=grownCap_ge w (ys.length + 1) old 294
   have hcm:=grownCap_le_maxLen w (ys.length + 1) old 294 (by omega)
   refine ⟨?_,⟨rfl,rfl,rfl,by simp,fun k hk _=>heap_alloc_old w.drew _ hk⟩⟩
   have:=lay_grown 294 rfl (w.drew.alloc (.cells ((ys.flatMap layC).toArray ++ (layC y).toArray ++ Builtin.zeroCells z.cells (grownCap w (ys.length + 1) old 294 - (ys.length + 1))) 294)) (ys ++ [y]) w.heap.size (Builtin.zeroCells z.cells (grownCap w (ys.length + 1) old 294 - (ys.length + 1))) (grownCap w (ys.length + 1) old 294)
    (by rw [List.flatMap_append];simpa using heap_alloc_new w.drew _) (by simpa using hge) hcm (by rw [size_zeroCells,hzs];simp)
   simpa using this
  rcases h with ⟨rfl,rfl⟩ | ⟨g,o,cap,cur,rfl,hg,h1,h2,h3,h4⟩
  ·have hr:=run_append_nil (P:=P) w t op.type 294 i z ht hi hz ad 1 c (layC y) hl hnews (by omega) (by omega) (by omega)
   have hgr:=hgn 0 (by simp) (Value.ownBlock (.slice none 0 0))
   simp only [List.length_nil,Nat.zero_add,List.flatMap_nil,List.nil_append,Array.empty_append] at hgr ⊢
   exact ⟨_,_,hr,hgr.1,hgr.2,fun k hk=>by simp [Value.ownBlock] at hk;exact Or.inr (by omega)⟩
  ·by_cases hroom:ys.length + 1≤cap
   ·have hr:=run_append_room_at (P:=P) w t op.type 294 i ht hi g o ys.length cap cur hg ad 1 c (layC y) hl hnews (layC_one y) hroom (by rw [hsize];simp only [layC_len];omega)
    refine ⟨_,_,hr,Or.inr ⟨g,o,cap,_,by simp,setRow_heap w g cur _ _ _ hg,by simpa using hroom,h2,?_,?_⟩,⟨rfl,rfl,rfl,by simp,fun k _ hk=>setRow_other w g k _ (fun e=>hk (by simp [Value.ownBlock,e]))⟩,fun k hk=>Or.inl (by simpa [Value.ownBlock] using hk)⟩
    ·rw [hsize]
     simp only [List.size_toArray,List.length_append,List.length_take,List.length_drop,Array.length_toList,layC_len]
     omega
    ·rw [hsize]
     have hfl:=flat_len layC 3 layC_len ys
     simp only [List.length_append,List.length_cons,List.length_nil,Nat.zero_add,List.flatMap_append,List.flatMap_cons,List.flatMap_nil,List.append_nil]
     rw [← h4,List.append_assoc,List.drop_append_of_le_length (by simp only [List.length_take,Array.length_toList];omega)]
     have e1:(List.take (o + ys.length * 3) cur.toList).drop o=(cur.toList.drop o).take (ys.length * 3):=by
      rw [List.drop_take,Nat.add_sub_cancel_left]
     rw [e1,← List.append_assoc]
     rw [show (ys.length + 1) * 3=((cur.toList.drop o).take (ys.length * 3) ++ layC y).length by rw [List.length_append,h4,hfl,layC_len];omega]
     exact List.take_left
   ·have hr:=run_append_grow (P:=P) w t op.type 294 i z ht hi hz ⟨g,o,none⟩ ys.length cap (ys.flatMap layC) (by rw [flat_len layC 3 layC_len,hsize]) (LayAt.holds (w:=w) (n:=ys.length) (cap:=cap) (Or.inr ⟨g,o,cap,cur,rfl,hg,h1,h2,h3,h4⟩)) ad 1 c (layC y) hl hnews (by omega) (by omega) (growslice_fits (by omega) (by rw [hby];omega))
    have hgr:=hgn cap (by omega) (Value.ownBlock (.slice (some ⟨g,o,none⟩) ys.length cap))
    exact ⟨_,_,hr,hgr.1,hgr.2,fun k hk=>by simp [Value.ownBlock] at hk;exact Or.inr (by omega)⟩
 exact wpList_plain hgd fun _ hKK=>by
  obtain ⟨v',w',hr,h2,h3,h4⟩:=key
  unfold Oper.wp execOp
  simp only [ho,resolve,invoke,builtin,Sem.run_bind,Sem.run_pure,Result.andThen_ok,List.map_toArray,List.map_cons,List.map_nil,hs,hx,hr]
  exact hKK _ _ (hK v' w' h2 h3 h4)
end
end Go.Proofs.YtbleojodidbhiaaGreatDoor
