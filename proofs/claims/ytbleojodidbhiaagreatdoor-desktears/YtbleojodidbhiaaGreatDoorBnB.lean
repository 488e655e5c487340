/-  -/
import Derived.Test.YtbleojodidbhiaaGreatDoorBnA
import Derived.StillTailTactics
namespace Go.Proofs.YtbleojodidbhiaaGreatDoor
open Go.RowKit
structure Up (w:World) where
 v:World
 h:Below w.heap.size w v
theorem below_drawn (w:World):Below w.heap.size w { w with drawn:=w.drawn + 1 }:=⟨rfl,rfl,rfl,Nat.le_refl _,fun _ _=>rfl⟩
theorem below_drew (w:World):Below w.heap.size w w.drew:=below_drawn w
theorem wp_region_up {P:Program} {id:Nat} {Q:Exit→Act→World→Prop} {a:Act} {w:World} {l:List Oper} (hm:P.follows .mixedOrders=true) (hB:Region.lexB .any l.toArray=true)
  (h:wpQuiet P l.toArray (fun w'=>∃ n:Up w,w'=n.v) (fun a'=>∀ w',(∃ n:Up w,w'=n.v)→Q .normal a' w') l a):(Code.region id l.toArray true).wp P Q a w:=
 wp_region_quiet (C:=fun w'=>∃ n:Up w,w'=n.v) hm hB ⟨⟨_,below_drawn w⟩,rfl⟩ (by simpa using h)
theorem calls_up {P:Program} {f:FuncId} {args:Array Value} {w:World} {n:Up w} {v:Value}
  (h:Calls P f args n.v fun e w'=>e = .returned v∧Below n.v.heap.size n.v w'):Calls P f args n.v fun e w''=>e = .returned v∧∃ m:Up w,w''=m.v:=
 h.mono fun _ w' ⟨he,hb⟩=>⟨he,⟨w',n.h.trans (hb.mono n.h.size)⟩,rfl⟩
theorem calls_up_same {P:Program} {f:FuncId} {args:Array Value} {w:World} {n:Up w} {v:Value}
  (h:Calls P f args n.v fun e w'=>e = .returned v∧w'=n.v):Calls P f args n.v fun e w''=>e = .returned v∧∃ m:Up w,w''=m.v:=
 h.mono fun _ _ ⟨he,hb⟩=>⟨he,n,hb⟩
theorem Up.cell {w:World} (n:Up w) {p:Addr} {x:Value} (h:w.cell? p=some x):n.v.cell? p=some x:=by
 rw [n.h.cell (World.block_lt_of_cell? _ _ h)];exact h
end Go.Proofs.YtbleojodidbhiaaGreatDoor
namespace Go.Proofs.YtbleojodidbhiaaGreatDoor
open Go.RowKit
section
variable {P:Program} {ops:Array Oper} {md:Region.Mode}
def QF:Exit→Act→World→Prop:=fun _ _ _=>False
theorem wp_of_safe {o:Oper} {a:Act} {w:World} {K K':Act→World→Prop} {Q':Exit→Act→World→Prop} (h:∀ a w,K a w→K' a w) (hh:o.wp P a w K QF):o.wp P a w K' Q':=by
  unfold Oper.wp at *
  generalize (execOp a.eval o).run P w=r at *
  cases r with
  | ok n w'=>
    cases n <;> simp only [Oper.upon] at hh ⊢ <;>
      first
        | exact h _ _ hh
        | exact Calls.mono hh (fun e w'' he=>by
            cases e
            · exact h _ _ he
            · exact False.elim he
            · obtain ⟨_,_,hf⟩:=he;exact False.elim hf)
        | exact Rows.mono hh (fun _ _ he=>h _ _ he)
  | halt x w'=>
    cases x <;> simp only [Oper.upon] at hh ⊢
    exact False.elim hh
def sOp (P:Program) (ops:Array Oper) (i:Nat) (K:Act→World→Prop) (a:Act) (w:World):Prop:=
  match ops[i]? with
  | none=>K a w
  | some o=>if Region.wanted o (yielded ops a.tmps) then o.wp P a w (fun a' w'=>Below w.heap.size w w'∧K a' w') QF else K (a.put o.dst undef) w
def wpAnyS (P:Program) (md:Region.Mode) (ops:Array Oper) (Q:Act→World→Prop):Nat→Array Bool→Act→World→Prop
  | 0,listed,a,w=>Region.ready md ops listed=[]∧Q a w
  | fuel + 1,listed,a,w=>(Region.ready md ops listed=[]→Q a w)∧∀ i ∈ Region.ready md ops listed,sOp P ops i (wpAnyS P md ops Q fuel (listed.setIfInBounds i true)) a w
theorem wpOp_of_sOp {i:Nat} {a:Act} {w:World} {K K':Act→World→Prop} {Q':Exit→Act→World→Prop} (h:∀ a w,K a w→K' a w) (hh:sOp P ops i K a w):wpOp P ops Q' i K' a w:=by
  unfold sOp at hh
  unfold wpOp
  split
  · rename_i ho;simp only [ho] at hh;exact h _ _ hh
  · rename_i o ho
    simp only [ho] at hh
    split
    · rename_i hw;simp only [hw,if_true] at hh;exact .inl (wp_of_safe (fun a w hk=>h _ _ hk.2) hh)
    · rename_i hw;simp only [hw] at hh;exact h _ _ hh
theorem wpAny_of_S {Q:Act→World→Prop} {Q':Exit→Act→World→Prop} (hQ:∀ a w,Q a w→Q' .normal a w):∀ (fuel:Nat) (listed:Array Bool) (a:Act) (w:World),
    wpAnyS P md ops Q fuel listed a w→wpAny P md ops Q' fuel listed a w
  | 0,_,_,_,h=>⟨h.1,hQ _ _ h.2⟩
  | fuel + 1,_,_,_,h=>⟨fun h0=>hQ _ _ (h.1 h0),fun i hi=>wpOp_of_sOp (fun a' w' h'=>wpAny_of_S hQ fuel _ a' w' h') (h.2 i hi)⟩
def YieldsUp (P:Program) (ops:Array Oper) (w:World) (o:Oper) (v:Value) (a:Act):Prop:=
  (Region.wanted o (yielded ops a.tmps)=true∧∀ n:Up w,(execOp a.eval o).run P n.v = .ok (.value v) n.v)∨(Region.wanted o (yielded ops a.tmps)=false∧v=undef)
def Up.self (w:World):Up w:=⟨w,Below.refl _ _⟩
theorem up_ne (w:World):Nonempty (Up w):=⟨Up.self w⟩
theorem YieldsUp.sOp {i:Nat} {o:Oper} {v:Value} {a:Act} {w:World} (hi:ops[i]?=some o) (hy:YieldsUp P ops w o v a) {K:Act→World→Prop} (h:K (a.put o.dst v) w):sOp P ops i K a w:=by
  unfold Go.Proofs.YtbleojodidbhiaaGreatDoor.sOp
  simp only [hi]
  rcases hy with ⟨hw,hv⟩ | ⟨hw,rfl⟩
  · simp only [hw,if_true]
    unfold Oper.wp
    have:=hv (Up.self w)
    show Oper.upon P o a _ QF ((execOp a.eval o).run P (Up.self w).v)
    rw [this]
    exact ⟨Below.refl _ _,h⟩
  · simp only [hw,Bool.false_eq_true,if_false];exact h
theorem eval_tmps {a b:Act} (h:b.tmps=a.tmps):b.eval=a.eval:=by
  funext x
  cases x <;> simp [Act.eval,h]
theorem YieldsUp.keep {oi oj:Oper} {v u:Value} {a b:Act} {w w':World} (hy:YieldsUp P ops w oi v a) (hb:Below w.heap.size w w') (ht:b.tmps=(a.put oj.dst u).tmps)
    (hsi:∀ cs b,oi.op ≠ .select cs b) (h3:∀ d,oj.dst=some d→d ∉ oi.looksAt ops):YieldsUp P ops w' oi v b:=by
  have e1:execOp b.eval oi=execOp a.eval oi:=by rw [eval_tmps ht];exact execOp_put oi hsi a oj.dst u h3
  have e2:Region.wanted oi (yielded ops b.tmps)=Region.wanted oi (yielded ops a.tmps):=by rw [ht];exact wanted_put oi a oj.dst u h3
  unfold YieldsUp
  rw [e1,e2]
  rcases hy with ⟨hw,hv⟩ | h
  · exact .inl ⟨hw,fun n=>hv ⟨n.v,hb.trans (n.h.mono hb.size)⟩⟩
  · exact .inr h
theorem put_defers (a:Act) (x:Option Tmp) (v:Value) (ds:List Deferred):({ a.put x v with defers:=ds }:Act)=({ a with defers:=ds }:Act).put x v:=by cases x <;> rfl
theorem put_tmps {a b:Act} (x:Option Tmp) (v:Value) (h:b.tmps=a.tmps):(b.put x v).tmps=(a.put x v).tmps:=by cases x <;> simp [Act.put,h]
theorem put_def (a:Act) (x:Option Tmp) (v:Value):(a.put x v).defers=a.defers:=by cases x <;> rfl
theorem wp_put {oi oj:Oper} {v:Value} {K K':Act→World→Prop} {a:Act} {w:World} (he:execOp (a.put oi.dst v).eval oj=execOp a.eval oj) (h2:∀ d,oi.dst=some d→oj.dst ≠ some d)
    (hK:∀ (b:Act) (w':World) (u:Value),b.tmps=(a.put oj.dst u).tmps→K (b.put oi.dst v) w'→K' b w') (h:oj.wp P (a.put oi.dst v) w K QF):oj.wp P a w K' QF:=by
  unfold Oper.wp at *
  rw [he] at h
  generalize (execOp a.eval oj).run P w=r at *
  have hp:∀ u w',K ((a.put oi.dst v).put oj.dst u) w'→K' (a.put oj.dst u) w':=fun u w' hk=>hK _ w' u rfl (by rw [← Act.put_comm a v u h2];exact hk)
  cases r with
  | ok n w'=>
    cases n <;> simp only [Oper.upon] at h ⊢ <;>
      first
        | exact hp _ _ h
        | exact Calls.mono h (fun e w'' he=>by
            cases e
            · exact hp _ _ he
            · exact False.elim he
            · obtain ⟨_,_,hf⟩:=he;exact False.elim hf)
        | exact Rows.mono h (fun _ _ he=>hp _ _ he)
        | (refine hK _ _ undef ?_ ?_
           · exact put_tmps _ _ rfl
           · rw [put_def,put_defers] at h
             rw [← Act.put_comm _ v undef h2];exact h)
  | halt x w'=>
    cases x <;> simp only [Oper.upon] at h ⊢
    exact h
theorem sOp_put {j:Nat} {oi oj:Oper} {v:Value} (hj:ops[j]?=some oj) (hap:oi.apart ops oj=true)
    (hsi:∀ cs b,oi.op ≠ .select cs b) (hsj:∀ cs b,oj.op ≠ .select cs b) {K:Act→World→Prop} {a:Act} {w:World}
    (hy:YieldsUp P ops w oi v a) (h:sOp P ops j K (a.put oi.dst v) w) :
    sOp P ops j (fun a' w'=>YieldsUp P ops w' oi v a'∧K (a'.put oi.dst v) w') a w:=by
  obtain ⟨h1,h2,h3⟩:=Oper.apart_spec hap
  unfold sOp at *
  simp only [hj] at *
  rw [wanted_put oj a oi.dst v h1] at h
  split
  · rename_i hw
    simp only [hw,if_true] at h
    exact wp_put (K:=fun a' w'=>Below w.heap.size w w'∧K a' w') (execOp_put oj hsj a oi.dst v h1) h2 (fun b w' u hb hk=>⟨hk.1,hy.keep hk.1 hb hsi h3,hk.2⟩) h
  · rename_i hw
    simp only [hw] at h
    exact ⟨hy.keep (Below.refl _ _) rfl hsi h3,by rw [← Act.put_comm a v undef h2];exact h⟩
theorem sOp_mono {i:Nat} {a:Act} {w:World} {K K':Act→World→Prop} (h:∀ a w,K a w→K' a w) (hh:sOp P ops i K a w):sOp P ops i K' a w:=by
  unfold sOp at *
  split
  · rename_i ho;simp only [ho] at hh;exact h _ _ hh
  · rename_i o ho
    simp only [ho] at hh
    split
    · rename_i hw;simp only [hw,if_true] at hh;exact wp_of_safe (fun a w hk=>⟨hk.1,h _ _ hk.2⟩) hh
    · rename_i hw;simp only [hw] at hh;exact h _ _ hh
theorem wpAnyS_first {Q:Act→World→Prop} {i:Nat} {oi:Oper} {v:Value} (hi:ops[i]?=some oi) (hsel:∀ (j:Nat) (o:Oper) cs b,ops[j]?=some o→o.op ≠ .select cs b) :
    ∀ (fuel:Nat) (listed:Array Bool) (a:Act) (w:World),
      (∀ j oj,ops[j]?=some oj→j ≠ i→listed.getD j true=false→(∀ e ∈ oj.after,Region.binds md e=true→e.on ≠ i)→oi.apart ops oj=true) →
      i ∈ Region.ready md ops listed→YieldsUp P ops w oi v a →
      wpAnyS P md ops Q fuel (listed.setIfInBounds i true) (a.put oi.dst v) w→wpAnyS P md ops Q (fuel + 1) listed a w:=by
  intro fuel
  induction fuel with
  | zero=>
    intro listed a w _ hr hy H
    refine ⟨fun h=>(by rw [h] at hr;cases hr),fun j hj=>?_⟩
    by_cases hji:j=i
    · subst hji;exact hy.sOp hi H
    · have:=ready_mono hj hji
      rw [H.1] at this
      cases this
  | succ fuel ih=>
    intro listed a w hfree hr hy H
    refine ⟨fun h=>(by rw [h] at hr;cases hr),fun j hj=>?_⟩
    by_cases hji:j=i
    · subst hji;exact hy.sOp hi H
    · have h1:=H.2 j (ready_mono hj hji)
      obtain ⟨hjun,oj,hoj,hall⟩:=mem_ready.1 hj
      have hnot:∀ e ∈ oj.after,Region.binds md e=true→e.on ≠ i:=fun e he hb heq=>by
        have h1:=hall e he hb
        have h0:=(mem_ready.1 hr).1
        rw [heq] at h1
        rcases Nat.lt_or_ge i listed.size with h' | h'
        · simp [h'] at h0 h1;rw [h0] at h1;cases h1
        · simp [Array.getElem?_eq_none h'] at h1
      have h2:=sOp_put hoj (hfree j oj hoj hji hjun hnot) (fun cs b=>hsel i oi cs b hi) (fun cs b=>hsel j oj cs b hoj) hy h1
      have hfree':∀ k ok,ops[k]?=some ok→k ≠ i→(listed.setIfInBounds j true).getD k true=false →
          (∀ e ∈ ok.after,Region.binds md e=true→e.on ≠ i)→oi.apart ops ok=true:=fun k ok hk hki hun hno=>by
        refine hfree k ok hk hki ?_ hno
        by_cases hjk:j=k
        · subst hjk;exact hjun
        · rw [getD_set_ne true hjk] at hun;exact hun
      refine sOp_mono (fun a' w' h3=>ih (listed.setIfInBounds j true) a' w' hfree' (ready_mono hr (Ne.symm hji)) h3.1 ?_) h2
      rw [Array.setIfInBounds_comm _ _ hji]
      exact h3.2
def plainOp:Op→Bool
  | .move _ | .assign _ | .pick .. | .load .. | .fieldAddr .. | .indexAddr .. | .binOp .. | .unOp .. | .index .. | .extract .. | .makeInterface ..=>true
  | _=>false
theorem value_only (s:Sem Value) (w w':World) (n:Next) (h:(s >>= fun x=>(pure (Next.value x):Sem Next)).run P w = .ok n w'):∃ u,n = .value u:=by
  rw [Sem.run_bind] at h
  cases hs:s.run P w with
  | ok x w1=>
    rw [hs] at h
    have h':Result.ok (Next.value x) w1=Result.ok n w':=h
    cases h'
    exact ⟨x,rfl⟩
  | halt x w1=>rw [hs] at h;cases h
theorem plain_only {ρ:Operand→Value} {o:Oper} {w w':World} {n:Next} (hp:plainOp o.op=true) (h:(execOp ρ o).run P w = .ok n w'):∃ u,n = .value u:=by
  unfold execOp at h
  cases hop:o.op <;> rw [hop] at h hp <;>
    first
      | exact absurd hp Bool.false_ne_true
      | (exact value_only _ _ _ _ h)
      | (cases h;exact ⟨_,rfl⟩)
      | (rename_i c x y
         have h':((asBool (ρ c)).run P w).andThen (fun b w1=>(pure (Next.value (if b then ρ x else ρ y)):Sem Next).run P w1) = .ok n w':=by
           rw [← Sem.run_bind];exact h
         cases hb:(asBool (ρ c)).run P w with
         | ok b w1=>
           rw [hb] at h'
           have h2:Result.ok (Next.value (if b then ρ x else ρ y)) w1=Result.ok n w':=h'
           cases h2
           exact ⟨_,rfl⟩
         | halt e w1=>rw [hb] at h';cases h')
theorem yields_of_quiet {w:World} {o:Oper} {a:Act} {K:Act→Prop} (hp:plainOp o.op=true) (h:wpQuiet P ops (fun w'=>∃ n:Up w,w'=n.v) K [o] a):∃ v,YieldsUp P ops w o v a∧K (a.put o.dst v):=by
  unfold wpQuiet at h
  split at h
  · rename_i hw
    obtain ⟨v,h1,h2⟩:=h
    refine ⟨v,.inl ⟨hw,fun n=>?_⟩,h2⟩
    have h3:=h1 n.v ⟨n,rfl⟩
    unfold Oper.quietAt at h3
    cases hr:(execOp a.eval o).run P n.v with
    | ok m w'=>
      obtain ⟨u,rfl⟩:=plain_only hp hr
      rw [hr] at h3
      obtain ⟨e1,e2⟩:=h3
      rw [e1,e2]
    | halt x w'=>rw [hr] at h3;exact False.elim h3
  · rename_i hw
    exact ⟨undef,.inr ⟨by simpa using hw,rfl⟩,h⟩
def mixQ (w:World) (K:Act→World→Prop):Exit→Act→World→Prop:=fun x a' w'=>x = .normal∧Below w.heap.size w w'∧K a' w'
theorem safe_of_wp {o:Oper} {a:Act} {w:World} {K:Act→World→Prop} (hh:o.wp P a w (mixQ w K .normal) (mixQ w K)):o.wp P a w (fun a' w'=>Below w.heap.size w w'∧K a' w') QF:=by
  unfold Oper.wp at *
  generalize (execOp a.eval o).run P w=r at *
  cases r with
  | ok n w'=>
    cases n <;> simp only [Oper.upon] at hh ⊢ <;>
      first
        | exact hh.2
        | exact Calls.mono hh (fun e w'' he=>by
            cases e
            · exact he.2
            · exact absurd he.1 (by simp)
            · obtain ⟨_,_,hf⟩:=he;exact absurd hf.1 (by simp))
        | exact Rows.mono hh (fun _ _ he=>he.2)
  | halt x w'=>
    cases x <;> simp only [Oper.upon] at hh ⊢
    exact absurd hh.1 (by simp)
def wpMix (P:Program) (ops:Array Oper) (Q:Act→World→Prop):List (Bool × Nat)→Act→World→Prop
  | [],a,w=>Q a w
  | (true,k) :: rest,a,w=>∃ o,ops[k]?=some o∧wpQuiet P ops (fun w'=>∃ n:Up w,w'=n.v) (fun a'=>wpMix P ops Q rest a' w) [o] a
  | (false,k) :: rest,a,w=>∃ o,ops[k]?=some o∧wpList P ops (mixQ w (wpMix P ops Q rest)) [o] a w
theorem mix_nil {Q:Act→World→Prop} {a:Act} {w:World} (h:Q a w):wpMix P ops Q [] a w:=h
def nth {α:Type}:List α→Nat→Option α
  | [],_=>none
  | o :: _,0=>some o
  | _ :: l,k + 1=>nth l k
theorem nth_is {α:Type}:∀ (l:List α) (k:Nat),nth l k=l[k]?
  | [],k=>by simp [nth]
  | o :: l,0=>by simp [nth]
  | o :: l,k + 1=>by simp [nth,nth_is l k]
theorem mix_q {l:List Oper} {Q:Act→World→Prop} {k:Nat} {rest:List (Bool × Nat)} {a:Act} {w:World} {o:Oper} (ho:nth l k=some o)
    (h:wpQuiet P l.toArray (fun w'=>∃ n:Up w,w'=n.v) (fun a'=>wpMix P l.toArray Q rest a' w) [o] a):wpMix P l.toArray Q ((true,k) :: rest) a w:=⟨o,by rw [← ho,nth_is];simp,h⟩
theorem mix_n {l:List Oper} {Q:Act→World→Prop} {k:Nat} {rest:List (Bool × Nat)} {a:Act} {w:World} {o:Oper} (ho:nth l k=some o)
    (h:wpList P l.toArray (mixQ w (wpMix P l.toArray Q rest)) [o] a w):wpMix P l.toArray Q ((false,k) :: rest) a w:=⟨o,by rw [← ho,nth_is];simp,h⟩
def ordB (md:Region.Mode) (ops:Array Oper):List (Bool × Nat)→Array Bool→Bool
  | [],listed=>(Region.ready md ops listed).isEmpty
  | (true,k) :: rest,listed=>(Region.ready md ops listed).contains k && Region.free md ops listed k && (match ops[k]? with | some o=>plainOp o.op | none=>false) && ordB md ops rest (listed.setIfInBounds k true)
  | (false,k) :: rest,listed=>decide (Region.ready md ops listed=[k]) && ordB md ops rest (listed.setIfInBounds k true)
theorem wpAnyS_ord {Q:Act→World→Prop} (hs:Region.noSelect ops=true):∀ (ord:List (Bool × Nat)) (listed:Array Bool) (a:Act) (w:World),ordB md ops ord listed=true→wpMix P ops Q ord a w→wpAnyS P md ops Q ord.length listed a w
  | [],listed,a,w,hB,h=>⟨by simpa [ordB] using hB,h⟩
  | (true,k) :: rest,listed,a,w,hB,⟨o,ho,h⟩=>by
    simp only [ordB,Bool.and_eq_true] at hB
    obtain ⟨⟨⟨hr,hf⟩,hp⟩,hB'⟩:=hB
    rw [ho] at hp
    obtain ⟨v,hy,hK⟩:=yields_of_quiet hp h
    exact wpAnyS_first ho (Region.noSelect_spec hs) rest.length listed a w (Region.free_spec ho hf) (by simpa using hr) hy (wpAnyS_ord hs rest _ _ _ hB' hK)
  | (false,k) :: rest,listed,a,w,hB,⟨o,ho,h⟩=>by
    simp only [ordB,Bool.and_eq_true,decide_eq_true_eq] at hB
    obtain ⟨hr,hB'⟩:=hB
    refine ⟨fun h0=>(by rw [h0] at hr;cases hr),fun i hi=>?_⟩
    rw [hr] at hi
    obtain rfl:i=k:=by simpa using hi
    unfold sOp
    simp only [ho]
    unfold wpList at h
    split
    · rename_i hw
      simp only [hw,if_true] at h
      rcases h with h | ⟨_,_,_,hf⟩
      · have h2:=safe_of_wp (K:=wpMix P ops Q rest) h
        exact wp_of_safe (fun a w hk=>⟨hk.1,wpAnyS_ord hs rest _ _ _ hB' hk.2⟩) h2
      · exact absurd hf.1 (by simp)
    · rename_i hw
      simp only [hw] at h
      exact wpAnyS_ord hs rest _ _ _ hB' h.2.2
theorem wp_region_mix {id:Nat} {Q:Exit→Act→World→Prop} {a:Act} {w:World} {l:List Oper} (ord:List (Bool × Nat)) (hm:P.follows .mixedOrders=true)
    (hB:(Region.noSelect l.toArray && decide (ord.length=l.length) && ordB .any l.toArray ord (Array.replicate l.length false))=true)
    (h:wpMix P l.toArray (fun a' w'=>Q .normal a' w') ord a w.drew):(Code.region id l.toArray true).wp P Q a w:=by
  simp only [Bool.and_eq_true,decide_eq_true_eq] at hB
  obtain ⟨⟨hs,hl⟩,hB⟩:=hB
  refine wp_region_any hm ?_
  have:=wpAny_of_S (Q':=Q) (fun a w h=>h) _ _ _ _ (wpAnyS_ord (md:=.any) hs ord _ a w.drew hB h)
  rw [hl] at this
  simpa using this
end
end Go.Proofs.YtbleojodidbhiaaGreatDoor
namespace Go.Proofs.YtbleojodidbhiaaGreatDoor
open Go.RowKit
section
variable {P:Program} {ops:Array Oper} {md:Region.Mode}
inductive St | pure | read | make | turn
  deriving DecidableEq
structure AnyW where
  v:World
theorem anyW_ne:Nonempty AnyW:=⟨⟨default⟩⟩
def May (E:List Nat) (i:Nat) (w w':World):Prop:=i ∈ E∨Below w.heap.size w w'
def eOp (P:Program) (ops:Array Oper) (E:List Nat) (i:Nat) (K:Act→World→Prop) (a:Act) (w:World):Prop:=
  match ops[i]? with
  | none=>K a w
  | some o=>if Region.wanted o (yielded ops a.tmps) then o.wp P a w (fun a' w'=>May E i w w'∧K a' w') QF else K (a.put o.dst undef) w
def wpAnyE (P:Program) (md:Region.Mode) (ops:Array Oper) (E:List Nat) (Q:Act→World→Prop):Nat→Array Bool→Act→World→Prop
  | 0,listed,a,w=>Region.ready md ops listed=[]∧Q a w
  | fuel + 1,listed,a,w=>(Region.ready md ops listed=[]→Q a w)∧∀ i ∈ Region.ready md ops listed,eOp P ops E i (wpAnyE P md ops E Q fuel (listed.setIfInBounds i true)) a w
theorem wpOp_of_eOp {E:List Nat} {i:Nat} {a:Act} {w:World} {K K':Act→World→Prop} {Q':Exit→Act→World→Prop} (h:∀ a w,K a w→K' a w) (hh:eOp P ops E i K a w):wpOp P ops Q' i K' a w:=by
  unfold eOp at hh
  unfold wpOp
  split
  · rename_i ho;simp only [ho] at hh;exact h _ _ hh
  · rename_i o ho
    simp only [ho] at hh
    split
    · rename_i hw;simp only [hw,if_true] at hh;exact .inl (wp_of_safe (fun a w hk=>h _ _ hk.2) hh)
    · rename_i hw;simp only [hw] at hh;exact h _ _ hh
theorem wpAny_of_E {E:List Nat} {Q:Act→World→Prop} {Q':Exit→Act→World→Prop} (hQ:∀ a w,Q a w→Q' .normal a w):∀ (fuel:Nat) (listed:Array Bool) (a:Act) (w:World),
    wpAnyE P md ops E Q fuel listed a w→wpAny P md ops Q' fuel listed a w
  | 0,_,_,_,h=>⟨h.1,hQ _ _ h.2⟩
  | fuel + 1,_,_,_,h=>⟨fun h0=>hQ _ _ (h.1 h0),fun i hi=>wpOp_of_eOp (fun a' w' h'=>wpAny_of_E hQ fuel _ a' w' h') (h.2 i hi)⟩
def YieldsR (R:World→World→Prop) (P:Program) (ops:Array Oper) (w:World) (o:Oper) (v:Value) (a:Act):Prop:=
  (Region.wanted o (yielded ops a.tmps)=true∧∀ w',R w w'→(execOp a.eval o).run P w' = .ok (.value v) w')∨(Region.wanted o (yielded ops a.tmps)=false∧v=undef)
theorem YieldsR.eOp {R:World→World→Prop} {E:List Nat} (hR:∀ w,R w w) {i:Nat} {o:Oper} {v:Value} {a:Act} {w:World} (hi:ops[i]?=some o) (hy:YieldsR R P ops w o v a) {K:Act→World→Prop} (h:K (a.put o.dst v) w):eOp P ops E i K a w:=by
  unfold Go.Proofs.YtbleojodidbhiaaGreatDoor.eOp
  simp only [hi]
  rcases hy with ⟨hw,hv⟩ | ⟨hw,rfl⟩
  · simp only [hw,if_true]
    unfold Oper.wp
    rw [hv w (hR w)]
    exact ⟨Or.inr (Below.refl _ _),h⟩
  · simp only [hw,Bool.false_eq_true,if_false];exact h
theorem YieldsR.keep {R:World→World→Prop} (hT:∀ a b c,R a b→R b c→R a c) {oi oj:Oper} {v u:Value} {a b:Act} {w w':World} (hy:YieldsR R P ops w oi v a) (hb:R w w') (ht:b.tmps=(a.put oj.dst u).tmps)
    (hsi:∀ cs b,oi.op ≠ .select cs b) (h3:∀ d,oj.dst=some d→d ∉ oi.looksAt ops):YieldsR R P ops w' oi v b:=by
  have e1:execOp b.eval oi=execOp a.eval oi:=by rw [eval_tmps ht];exact execOp_put oi hsi a oj.dst u h3
  have e2:Region.wanted oi (yielded ops b.tmps)=Region.wanted oi (yielded ops a.tmps):=by rw [ht];exact wanted_put oi a oj.dst u h3
  unfold YieldsR
  rw [e1,e2]
  rcases hy with ⟨hw,hv⟩ | h
  · exact .inl ⟨hw,fun n hn=>hv n (hT _ _ _ hb hn)⟩
  · exact .inr h
theorem eOp_put {R:World→World→Prop} (hR:∀ w,R w w) (hT:∀ a b c,R a b→R b c→R a c) {E:List Nat} {j:Nat} {oi oj:Oper} {v:Value} (hj:ops[j]?=some oj) (hap:oi.apart ops oj=true)
    (hsi:∀ cs b,oi.op ≠ .select cs b) (hsj:∀ cs b,oj.op ≠ .select cs b) (hm:∀ w w',May E j w w'→R w w') {K:Act→World→Prop} {a:Act} {w:World}
    (hy:YieldsR R P ops w oi v a) (h:eOp P ops E j K (a.put oi.dst v) w) :
    eOp P ops E j (fun a' w'=>YieldsR R P ops w' oi v a'∧K (a'.put oi.dst v) w') a w:=by
  obtain ⟨h1,h2,h3⟩:=Oper.apart_spec hap
  unfold eOp at *
  simp only [hj] at *
  rw [wanted_put oj a oi.dst v h1] at h
  split
  · rename_i hw
    simp only [hw,if_true] at h
    exact wp_put (K:=fun a' w'=>May E j w w'∧K a' w') (execOp_put oj hsj a oi.dst v h1) h2 (fun b w' u hb hk=>⟨hk.1,hy.keep hT (hm _ _ hk.1) hb hsi h3,hk.2⟩) h
  · rename_i hw
    simp only [hw] at h
    exact ⟨hy.keep hT (hR _) rfl hsi h3,by rw [← Act.put_comm a v undef h2];exact h⟩
theorem eOp_mono {E:List Nat} {i:Nat} {a:Act} {w:World} {K K':Act→World→Prop} (h:∀ a w,K a w→K' a w) (hh:eOp P ops E i K a w):eOp P ops E i K' a w:=by
  unfold eOp at *
  split
  · rename_i ho;simp only [ho] at hh;exact h _ _ hh
  · rename_i o ho
    simp only [ho] at hh
    split
    · rename_i hw;simp only [hw,if_true] at hh;exact wp_of_safe (fun a w hk=>⟨hk.1,h _ _ hk.2⟩) hh
    · rename_i hw;simp only [hw] at hh;exact h _ _ hh
theorem wpAnyE_first {R:World→World→Prop} (hR:∀ w,R w w) (hT:∀ a b c,R a b→R b c→R a c) {E:List Nat} {Q:Act→World→Prop} {i:Nat} {oi:Oper} {v:Value} (hi:ops[i]?=some oi)
    (hsel:∀ (j:Nat) (o:Oper) cs b,ops[j]?=some o→o.op ≠ .select cs b) (G:Array Bool→Prop)
    (hG:∀ listed j,G listed→j ∈ Region.ready md ops listed→j ≠ i→(∀ w w',May E j w w'→R w w')∧G (listed.setIfInBounds j true)) :
    ∀ (fuel:Nat) (listed:Array Bool) (a:Act) (w:World),
      (∀ j oj,ops[j]?=some oj→j ≠ i→listed.getD j true=false→(∀ e ∈ oj.after,Region.binds md e=true→e.on ≠ i)→oi.apart ops oj=true)→G listed →
      i ∈ Region.ready md ops listed→YieldsR R P ops w oi v a →
      wpAnyE P md ops E Q fuel (listed.setIfInBounds i true) (a.put oi.dst v) w→wpAnyE P md ops E Q (fuel + 1) listed a w:=by
  intro fuel
  induction fuel with
  | zero=>
    intro listed a w _ _ hr hy H
    refine ⟨fun h=>(by rw [h] at hr;cases hr),fun j hj=>?_⟩
    by_cases hji:j=i
    · subst hji;exact hy.eOp hR hi H
    · have:=ready_mono hj hji
      rw [H.1] at this
      cases this
  | succ fuel ih=>
    intro listed a w hfree hg hr hy H
    refine ⟨fun h=>(by rw [h] at hr;cases hr),fun j hj=>?_⟩
    by_cases hji:j=i
    · subst hji;exact hy.eOp hR hi H
    · have h1:=H.2 j (ready_mono hj hji)
      obtain ⟨hjun,oj,hoj,hall⟩:=mem_ready.1 hj
      have hnot:∀ e ∈ oj.after,Region.binds md e=true→e.on ≠ i:=fun e he hb heq=>by
        have h1:=hall e he hb
        have h0:=(mem_ready.1 hr).1
        rw [heq] at h1
        rcases Nat.lt_or_ge i listed.size with h' | h'
        · simp [h'] at h0 h1;rw [h0] at h1;cases h1
        · simp [Array.getElem?_eq_none h'] at h1
      obtain ⟨hmay,hg'⟩:=hG listed j hg hj hji
      have h2:=eOp_put hR hT hoj (hfree j oj hoj hji hjun hnot) (fun cs b=>hsel i oi cs b hi) (fun cs b=>hsel j oj cs b hoj) hmay hy h1
      have hfree':∀ k ok,ops[k]?=some ok→k ≠ i→(listed.setIfInBounds j true).getD k true=false →
          (∀ e ∈ ok.after,Region.binds md e=true→e.on ≠ i)→oi.apart ops ok=true:=fun k ok hk hki hun hno=>by
        refine hfree k ok hk hki ?_ hno
        by_cases hjk:j=k
        · subst hjk;exact hjun
        · rw [getD_set_ne true hjk] at hun;exact hun
      refine eOp_mono (fun a' w' h3=>ih (listed.setIfInBounds j true) a' w' hfree' hg' (ready_mono hr (Ne.symm hji)) h3.1 ?_) h2
      rw [Array.setIfInBounds_comm _ _ hji]
      exact h3.2
def descB (md:Region.Mode) (ops:Array Oper) (E:List Nat) (listed:Array Bool) (i:Nat) (ds:List Nat):Bool:=
  ds.all (fun k=>listed.getD k true == false) &&
  ds.all (fun k=>k == i || (match ops[k]? with | some o=>o.after.any (fun e=>Region.binds md e && ds.contains e.on) | none=>false)) &&
  E.all (fun k=>ds.contains k || listed.getD k true)
def descs (md:Region.Mode) (ops:Array Oper) (i:Nat):List Nat:=
  (List.range ops.size).foldl (fun ds k=>if k == i || (match ops[k]? with | some o=>o.after.any (fun e=>Region.binds md e && ds.contains e.on) | none=>false) then k :: ds else ds) []
def GoodD (E ds:List Nat) (listed:Array Bool):Prop:=(∀ k ∈ ds,listed.getD k true=false)∧∀ k ∈ E,k ∈ ds∨listed.getD k true=true
theorem goodD_step {E ds:List Nat} {i:Nat} (h2:∀ k ∈ ds,k=i∨∃ o,ops[k]?=some o∧∃ e ∈ o.after,Region.binds md e=true∧e.on ∈ ds) (listed:Array Bool) (j:Nat) (hg:GoodD E ds listed) (hj:j ∈ Region.ready md ops listed) (hji:j ≠ i) :
    (∀ w w',May E j w w'→Below w.heap.size w w')∧GoodD E ds (listed.setIfInBounds j true):=by
  obtain ⟨hjun,oj,hoj,hall⟩:=mem_ready.1 hj
  have hnd:j ∉ ds:=fun hd=>by
    rcases h2 j hd with h | ⟨o,ho,e,he,hb,hon⟩
    · exact hji h
    · rw [hoj] at ho
      obtain rfl:=Option.some.inj ho
      have h1:=hall e he hb
      have h0:=hg.1 _ hon
      rcases Nat.lt_or_ge e.on listed.size with h' | h'
      · simp [h'] at h0 h1;rw [h0] at h1;cases h1
      · simp [Array.getElem?_eq_none h'] at h1
  refine ⟨fun w w' hm=>?_,fun k hk=>?_,fun k hk=>?_⟩
  · rcases hm with hm | hm
    · rcases hg.2 j hm with h | h
      · exact absurd h hnd
      · rw [hjun] at h;cases h
    · exact hm
  · have hjk:j ≠ k:=fun e=>hnd (e ▸ hk)
    rw [getD_set_ne true hjk];exact hg.1 k hk
  · rcases hg.2 k hk with h | h
    · exact Or.inl h
    · refine Or.inr ?_
      by_cases hjk:j=k
      · subst hjk;rw [hjun] at h;cases h
      · rw [getD_set_ne true hjk];exact h
theorem descB_spec {E ds:List Nat} {listed:Array Bool} {i:Nat} (h:descB md ops E listed i ds=true):GoodD E ds listed∧∀ k ∈ ds,k=i∨∃ o,ops[k]?=some o∧∃ e ∈ o.after,Region.binds md e=true∧e.on ∈ ds:=by
  unfold descB at h
  simp only [Bool.and_eq_true,List.all_eq_true] at h
  obtain ⟨⟨h1,h2⟩,h3⟩:=h
  refine ⟨⟨fun k hk=>by simpa using h1 k hk,fun k hk=>by simpa using h3 k hk⟩,fun k hk=>?_⟩
  have:=h2 k hk
  simp only [Bool.or_eq_true,beq_iff_eq] at this
  rcases this with h | h
  · exact Or.inl h
  · right
    split at h
    · rename_i o ho
      rw [Array.any_eq_true'] at h
      obtain ⟨e,he,hb⟩:=h
      simp only [Bool.and_eq_true,List.contains_iff_mem] at hb
      exact ⟨o,ho,e,he,hb.1,hb.2⟩
    · cases h
def plainOpE:Op→Bool
  | .move _ | .assign _ | .pick .. | .load .. | .fieldAddr .. | .indexAddr .. | .binOp .. | .unOp .. | .index .. | .extract .. | .makeInterface .. | .nilCheck .. | .build ..=>true
  | _=>false
def VOnly (P:Program) (s:Sem Next):Prop:=∀ w n w',s.run P w = .ok n w'→∃ u,n = .value u
theorem vonly_pure (u:Value):VOnly P (pure (.value u)):=fun w n w' h=>by
  have h':Result.ok (Next.value u) w=Result.ok n w':=h
  cases h';exact ⟨_,rfl⟩
theorem vonly_bind {α:Type} (s:Sem α) (f:α→Sem Next) (h:∀ x,VOnly P (f x)):VOnly P (s >>= f):=fun w n w' hr=>by
  rw [Sem.run_bind] at hr
  cases hs:s.run P w with
  | ok x w1=>rw [hs] at hr;exact h x w1 n w' hr
  | halt x w1=>rw [hs] at hr;cases hr
theorem plain_onlyE {ρ:Operand→Value} {o:Oper} {w w':World} {n:Next} (hp:plainOpE o.op=true) (h:(execOp ρ o).run P w = .ok n w'):∃ u,n = .value u:=by
  have key:VOnly P (execOp ρ o):=by
    unfold execOp
    cases hop:o.op <;> rw [hop] at hp <;>
      first
        | exact absurd hp Bool.false_ne_true
        | exact vonly_pure _
        | exact vonly_bind _ _ (fun _=>vonly_pure _)
        | skip
    all_goals
      rename_i x
      simp only
      split
      all_goals first
        | exact vonly_pure _
        | (intro w n w' h;cases h)
        | (split
           all_goals first
             | exact vonly_pure _
             | (intro w n w' h;cases h)
             | (refine vonly_bind _ _ (fun _=>vonly_bind _ _ (fun _=>?_))
                split
                · exact vonly_bind _ _ (fun _=>vonly_pure _)
                · exact vonly_pure _))
  exact key w n w' h
theorem yieldsR_of_quiet {R:World→World→Prop} {C:World→Prop} {w:World} {o:Oper} {a:Act} {K:Act→Prop} (hC:∀ w',R w w'→C w') (hp:plainOpE o.op=true) (h:wpQuiet P ops C K [o] a):∃ v,YieldsR R P ops w o v a∧K (a.put o.dst v):=by
  unfold wpQuiet at h
  split at h
  · rename_i hw
    obtain ⟨v,h1,h2⟩:=h
    refine ⟨v,.inl ⟨hw,fun n hn=>?_⟩,h2⟩
    have h3:=h1 n (hC n hn)
    unfold Oper.quietAt at h3
    cases hr:(execOp a.eval o).run P n with
    | ok m w'=>
      obtain ⟨u,rfl⟩:=plain_onlyE hp hr
      rw [hr] at h3
      obtain ⟨e1,e2⟩:=h3
      rw [e1,e2]
    | halt x w'=>rw [hr] at h3;exact False.elim h3
  · rename_i hw
    exact ⟨undef,.inr ⟨by simpa using hw,rfl⟩,h⟩
def turnQ (K:Act→World→Prop):Exit→Act→World→Prop:=fun x a' w'=>x = .normal∧K a' w'
theorem safe_of_turn {E:List Nat} {i:Nat} (hE:i ∈ E) {o:Oper} {a:Act} {w:World} {K:Act→World→Prop} (hh:o.wp P a w (turnQ K .normal) (turnQ K)):o.wp P a w (fun a' w'=>May E i w w'∧K a' w') QF:=by
  unfold Oper.wp at *
  generalize (execOp a.eval o).run P w=r at *
  cases r with
  | ok n w'=>
    cases n <;> simp only [Oper.upon] at hh ⊢ <;>
      first
        | exact ⟨Or.inl hE,hh.2⟩
        | exact Calls.mono hh (fun e w'' he=>by
            cases e
            · exact ⟨Or.inl hE,he.2⟩
            · exact absurd he.1 (by simp)
            · obtain ⟨_,_,hf⟩:=he;exact absurd hf.1 (by simp))
        | exact Rows.mono hh (fun _ _ he=>⟨Or.inl hE,he.2⟩)
  | halt x w'=>
    cases x <;> simp only [Oper.upon] at hh ⊢
    exact absurd hh.1 (by simp)
def wpTurn (P:Program) (ops:Array Oper) (Q:Act→World→Prop):List (St × Nat)→Act→World→Prop
  | [],a,w=>Q a w
  | (.pure,k) :: rest,a,w=>∃ o,ops[k]?=some o∧wpQuiet P ops (fun w'=>∃ n:AnyW,w'=n.v) (fun a'=>wpTurn P ops Q rest a' w) [o] a
  | (.read,k) :: rest,a,w=>∃ o,ops[k]?=some o∧wpQuiet P ops (fun w'=>∃ n:Up w,w'=n.v) (fun a'=>wpTurn P ops Q rest a' w) [o] a
  | (.make,k) :: rest,a,w=>∃ o,ops[k]?=some o∧wpList P ops (mixQ w (wpTurn P ops Q rest)) [o] a w
  | (.turn,k) :: rest,a,w=>∃ o,ops[k]?=some o∧wpList P ops (turnQ (wpTurn P ops Q rest)) [o] a w
theorem turn_nil {Q:Act→World→Prop} {a:Act} {w:World} (h:Q a w):wpTurn P ops Q [] a w:=h
theorem turn_p {l:List Oper} {Q:Act→World→Prop} {k:Nat} {rest:List (St × Nat)} {a:Act} {w:World} {o:Oper} (ho:nth l k=some o)
    (h:wpQuiet P l.toArray (fun w'=>∃ n:AnyW,w'=n.v) (fun a'=>wpTurn P l.toArray Q rest a' w) [o] a):wpTurn P l.toArray Q ((.pure,k) :: rest) a w:=⟨o,by rw [← ho,nth_is];simp,h⟩
theorem turn_q {l:List Oper} {Q:Act→World→Prop} {k:Nat} {rest:List (St × Nat)} {a:Act} {w:World} {o:Oper} (ho:nth l k=some o)
    (h:wpQuiet P l.toArray (fun w'=>∃ n:Up w,w'=n.v) (fun a'=>wpTurn P l.toArray Q rest a' w) [o] a):wpTurn P l.toArray Q ((.read,k) :: rest) a w:=⟨o,by rw [← ho,nth_is];simp,h⟩
theorem turn_n {l:List Oper} {Q:Act→World→Prop} {k:Nat} {rest:List (St × Nat)} {a:Act} {w:World} {o:Oper} (ho:nth l k=some o)
    (h:wpList P l.toArray (mixQ w (wpTurn P l.toArray Q rest)) [o] a w):wpTurn P l.toArray Q ((.make,k) :: rest) a w:=⟨o,by rw [← ho,nth_is];simp,h⟩
theorem turn_t {l:List Oper} {Q:Act→World→Prop} {k:Nat} {rest:List (St × Nat)} {a:Act} {w:World} {o:Oper} (ho:nth l k=some o)
    (h:wpList P l.toArray (turnQ (wpTurn P l.toArray Q rest)) [o] a w):wpTurn P l.toArray Q ((.turn,k) :: rest) a w:=⟨o,by rw [← ho,nth_is];simp,h⟩
def turnB (md:Region.Mode) (ops:Array Oper) (E:List Nat):List (St × Nat)→Array Bool→Bool
  | [],listed=>(Region.ready md ops listed).isEmpty
  | (.pure,k) :: rest,listed=>(Region.ready md ops listed).contains k && Region.free md ops listed k && (match ops[k]? with | some o=>plainOpE o.op | none=>false) && turnB md ops E rest (listed.setIfInBounds k true)
  | (.read,k) :: rest,listed=>(Region.ready md ops listed).contains k && Region.free md ops listed k && (match ops[k]? with | some o=>plainOpE o.op | none=>false) && descB md ops E listed k (descs md ops k) && turnB md ops E rest (listed.setIfInBounds k true)
  | (.make,k) :: rest,listed=>decide (Region.ready md ops listed=[k]) && turnB md ops E rest (listed.setIfInBounds k true)
  | (.turn,k) :: rest,listed=>decide (Region.ready md ops listed=[k]) && E.contains k && turnB md ops E rest (listed.setIfInBounds k true)
theorem wpAnyE_ord {E:List Nat} {Q:Act→World→Prop} (hs:Region.noSelect ops=true):∀ (ord:List (St × Nat)) (listed:Array Bool) (a:Act) (w:World),turnB md ops E ord listed=true→wpTurn P ops Q ord a w→wpAnyE P md ops E Q ord.length listed a w
  | [],listed,a,w,hB,h=>⟨by simpa [turnB] using hB,h⟩
  | (.pure,k) :: rest,listed,a,w,hB,⟨o,ho,h⟩=>by
    simp only [turnB,Bool.and_eq_true] at hB
    obtain ⟨⟨⟨hr,hf⟩,hp⟩,hB'⟩:=hB
    rw [ho] at hp
    obtain ⟨v,hy,hK⟩:=yieldsR_of_quiet (R:=fun _ _=>True) (w:=w) (fun w' _=>⟨⟨w'⟩,rfl⟩) hp h
    exact wpAnyE_first (R:=fun _ _=>True) (fun _=>trivial) (fun _ _ _ _ _=>trivial) ho (Region.noSelect_spec hs) (fun _=>True) (fun _ _ _ _ _=>⟨fun _ _ _=>trivial,trivial⟩) rest.length listed a w (Region.free_spec ho hf) trivial (by simpa using hr) hy (wpAnyE_ord hs rest _ _ _ hB' hK)
  | (.read,k) :: rest,listed,a,w,hB,⟨o,ho,h⟩=>by
    simp only [turnB,Bool.and_eq_true] at hB
    obtain ⟨⟨⟨⟨hr,hf⟩,hp⟩,hd⟩,hB'⟩:=hB
    rw [ho] at hp
    obtain ⟨hg,h2⟩:=descB_spec hd
    obtain ⟨v,hy,hK⟩:=yieldsR_of_quiet (R:=fun w w'=>Below w.heap.size w w') (w:=w) (fun w' hb=>⟨⟨w',hb⟩,rfl⟩) hp h
    exact wpAnyE_first (R:=fun w w'=>Below w.heap.size w w') (fun w=>Below.refl _ w) (fun a b c h1 h2=>h1.trans (h2.mono h1.size)) ho (Region.noSelect_spec hs) (GoodD E (descs md ops k)) (fun listed j hg hj hji=>goodD_step h2 listed j hg hj hji) rest.length listed a w (Region.free_spec ho hf) hg (by simpa using hr) hy (wpAnyE_ord hs rest _ _ _ hB' hK)
  | (.make,k) :: rest,listed,a,w,hB,⟨o,ho,h⟩=>by
    simp only [turnB,Bool.and_eq_true,decide_eq_true_eq] at hB
    obtain ⟨hr,hB'⟩:=hB
    refine ⟨fun h0=>(by rw [h0] at hr;cases hr),fun i hi=>?_⟩
    rw [hr] at hi
    obtain rfl:i=k:=by simpa using hi
    unfold eOp
    simp only [ho]
    unfold wpList at h
    split
    · rename_i hw
      simp only [hw,if_true] at h
      rcases h with h | ⟨_,_,_,hf⟩
      · have h2:=safe_of_wp (K:=wpTurn P ops Q rest) h
        exact wp_of_safe (fun a w hk=>⟨Or.inr hk.1,wpAnyE_ord hs rest _ _ _ hB' hk.2⟩) h2
      · exact absurd hf.1 (by simp)
    · rename_i hw
      simp only [hw] at h
      exact wpAnyE_ord hs rest _ _ _ hB' h.2.2
  | (.turn,k) :: rest,listed,a,w,hB,⟨o,ho,h⟩=>by
    simp only [turnB,Bool.and_eq_true,decide_eq_true_eq] at hB
    obtain ⟨⟨hr,hE⟩,hB'⟩:=hB
    have hE':k ∈ E:=by simpa using hE
    refine ⟨fun h0=>(by rw [h0] at hr;cases hr),fun i hi=>?_⟩
    rw [hr] at hi
    obtain rfl:i=k:=by simpa using hi
    unfold eOp
    simp only [ho]
    unfold wpList at h
    split
    · rename_i hw
      simp only [hw,if_true] at h
      rcases h with h | ⟨_,_,_,hf⟩
      · have h2:=safe_of_turn hE' (K:=wpTurn P ops Q rest) h
        exact wp_of_safe (fun a w hk=>⟨hk.1,wpAnyE_ord hs rest _ _ _ hB' hk.2⟩) h2
      · exact absurd hf.1 (by simp)
    · rename_i hw
      simp only [hw] at h
      exact wpAnyE_ord hs rest _ _ _ hB' h.2
def turns (ord:List (St × Nat)):List Nat:=(ord.filter fun x=>x.1 == .turn).map (·.2)
theorem wp_region_turn {id:Nat} {Q:Exit→Act→World→Prop} {a:Act} {w:World} {l:List Oper} (ord:List (St × Nat)) (hm:P.follows .mixedOrders=true)
    (hB:(Region.noSelect l.toArray && decide (ord.length=l.length) && turnB .any l.toArray (turns ord) ord (Array.replicate l.length false))=true)
    (h:wpTurn P l.toArray (fun a' w'=>Q .normal a' w') ord a w.drew):(Code.region id l.toArray true).wp P Q a w:=by
  simp only [Bool.and_eq_true,decide_eq_true_eq] at hB
  obtain ⟨⟨hs,hl⟩,hB⟩:=hB
  refine wp_region_any hm ?_
  have:=wpAny_of_E (Q':=Q) (fun a w h=>h) _ _ _ _ (wpAnyE_ord (md:=.any) hs ord _ a w.drew hB h)
  rw [hl] at this
  simpa using this
end
end Go.Proofs.YtbleojodidbhiaaGreatDoor
