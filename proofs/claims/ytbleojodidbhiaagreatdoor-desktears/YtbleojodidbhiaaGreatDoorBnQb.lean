/-  -/
import Derived.Test.YtbleojodidbhiaaGreatDoorBnB
import Derived.Test.YtbleojodidbhiaaGreatDoorBnDt
import Derived.Test.YtbleojodidbhiaaGreatDoorBnDf
import Derived.Test.YtbleojodidbhiaaGreatDoorBnDm
namespace Go.Proofs.YtbleojodidbhiaaGreatDoor
open Go.RowKit
section
variable {P:Program} {ops:Array Oper} {md:Region.Mode} {X:List PanicEntry→List Deferred→World→Prop}
def QX (X:List PanicEntry→List Deferred→World→Prop):Exit→Act→World→Prop
  | .panic ch,a,w=>X ch a.defers w
  | _,_,_=>False
theorem wp_of_safeX {o:Oper} {a:Act} {w:World} {K K':Act→World→Prop} {Q':Exit→Act→World→Prop} (h:∀ a w,K a w→K' a w) (hX:∀ ch a w,X ch a.defers w→Q' (.panic ch) a w) (hh:o.wp P a w K (QX X)):o.wp P a w K' Q':=by
  unfold Oper.wp at *
  generalize (execOp a.eval o).run P w=r at *
  cases r with
  | ok n w'=>
    cases n <;> simp only [Oper.upon] at hh ⊢ <;>
      first
        | exact h _ _ hh
        | exact Calls.mono hh (fun e w'' he=>by
            cases e
            · exact h _ _ he
            · exact hX _ _ _ he
            · obtain ⟨_,_,hf⟩:=he;exact False.elim hf)
        | exact Rows.mono hh (fun _ _ he=>h _ _ he)
  | halt x w'=>
    cases x <;> simp only [Oper.upon] at hh ⊢
    exact hX _ _ _ hh
theorem put_defersX (a:Act) (d:Option Tmp) (v:Value):(a.put d v).defers=a.defers:=by
  cases d <;> rfl
theorem wp_putX {oi oj:Oper} {v:Value} {K K':Act→World→Prop} {a:Act} {w:World} (he:execOp (a.put oi.dst v).eval oj=execOp a.eval oj) (h2:∀ d,oi.dst=some d→oj.dst ≠ some d)
    (hK:∀ (b:Act) (w':World) (u:Value),b.tmps=(a.put oj.dst u).tmps→K (b.put oi.dst v) w'→K' b w') (h:oj.wp P (a.put oi.dst v) w K (QX X)):oj.wp P a w K' (QX X):=by
  unfold Oper.wp at *
  rw [he] at h
  generalize (execOp a.eval oj).run P w=r at *
  have hp:∀ u w',K ((a.put oi.dst v).put oj.dst u) w'→K' (a.put oj.dst u) w':=fun u w' hk=>hK _ w' u rfl (by rw [← Act.put_comm a v u h2];exact hk)
  have hx:∀ ch w',QX X (.panic ch) (a.put oi.dst v) w'→QX X (.panic ch) a w':=fun ch w' hq=>by
    show X ch a.defers w'
    rw [← put_defersX a oi.dst v];exact hq
  cases r with
  | ok n w'=>
    cases n <;> simp only [Oper.upon] at h ⊢ <;>
      first
        | exact hp _ _ h
        | exact Calls.mono h (fun e w'' he=>by
            cases e
            · exact hp _ _ he
            · exact hx _ _ he
            · obtain ⟨_,_,hf⟩:=he;exact False.elim hf)
        | exact Rows.mono h (fun _ _ he=>hp _ _ he)
        | (refine hK _ _ undef ?_ ?_
           · exact put_tmps _ _ rfl
           · rw [put_def,put_defers] at h
             rw [← Act.put_comm _ v undef h2];exact h)
  | halt x w'=>
    cases x <;> simp only [Oper.upon] at h ⊢
    exact hx _ _ h
def eOpX (P:Program) (ops:Array Oper) (X:List PanicEntry→List Deferred→World→Prop) (E:List Nat) (i:Nat) (K:Act→World→Prop) (a:Act) (w:World):Prop:=
  match ops[i]? with
  | none=>K a w
  | some o=>if Region.wanted o (yielded ops a.tmps) then o.wp P a w (fun a' w'=>May E i w w'∧K a' w') (QX X) else K (a.put o.dst undef) w
def wpAnyX (P:Program) (md:Region.Mode) (ops:Array Oper) (X:List PanicEntry→List Deferred→World→Prop) (E:List Nat) (Q:Act→World→Prop):Nat→Array Bool→Act→World→Prop
  | 0,listed,a,w=>Region.ready md ops listed=[]∧Q a w
  | fuel + 1,listed,a,w=>(Region.ready md ops listed=[]→Q a w)∧∀ i ∈ Region.ready md ops listed,eOpX P ops X E i (wpAnyX P md ops X E Q fuel (listed.setIfInBounds i true)) a w
theorem wpOp_of_eOpX {E:List Nat} {i:Nat} {a:Act} {w:World} {K K':Act→World→Prop} {Q':Exit→Act→World→Prop} (hX:∀ ch a w,X ch a.defers w→Q' (.panic ch) a w) (h:∀ a w,K a w→K' a w) (hh:eOpX P ops X E i K a w):wpOp P ops Q' i K' a w:=by
  unfold eOpX at hh
  unfold wpOp
  split
  · rename_i ho;simp only [ho] at hh;exact h _ _ hh
  · rename_i o ho
    simp only [ho] at hh
    split
    · rename_i hw;simp only [hw,if_true] at hh;exact .inl (wp_of_safeX (fun a w hk=>h _ _ hk.2) hX hh)
    · rename_i hw;simp only [hw] at hh;exact h _ _ hh
theorem wpAny_of_X {E:List Nat} {Q:Act→World→Prop} {Q':Exit→Act→World→Prop} (hX:∀ ch a w,X ch a.defers w→Q' (.panic ch) a w) (hQ:∀ a w,Q a w→Q' .normal a w):∀ (fuel:Nat) (listed:Array Bool) (a:Act) (w:World),
    wpAnyX P md ops X E Q fuel listed a w→wpAny P md ops Q' fuel listed a w
  | 0,_,_,_,h=>⟨h.1,hQ _ _ h.2⟩
  | fuel + 1,_,_,_,h=>⟨fun h0=>hQ _ _ (h.1 h0),fun i hi=>wpOp_of_eOpX hX (fun a' w' h'=>wpAny_of_X hX hQ fuel _ a' w' h') (h.2 i hi)⟩
theorem YieldsR.eOpX {R:World→World→Prop} {E:List Nat} (hR:∀ w,R w w) {i:Nat} {o:Oper} {v:Value} {a:Act} {w:World} (hi:ops[i]?=some o) (hy:YieldsR R P ops w o v a) {K:Act→World→Prop} (h:K (a.put o.dst v) w):eOpX P ops X E i K a w:=by
  unfold Go.Proofs.YtbleojodidbhiaaGreatDoor.eOpX
  simp only [hi]
  rcases hy with ⟨hw,hv⟩ | ⟨hw,rfl⟩
  · simp only [hw,if_true]
    unfold Oper.wp
    rw [hv w (hR w)]
    exact ⟨Or.inr (Below.refl _ _),h⟩
  · simp only [hw,Bool.false_eq_true,if_false];exact h
theorem eOp_putX {R:World→World→Prop} (hR:∀ w,R w w) (hT:∀ a b c,R a b→R b c→R a c) {E:List Nat} {j:Nat} {oi oj:Oper} {v:Value} (hj:ops[j]?=some oj) (hap:oi.apart ops oj=true)
    (hsi:∀ cs b,oi.op ≠ .select cs b) (hsj:∀ cs b,oj.op ≠ .select cs b) (hm:∀ w w',May E j w w'→R w w') {K:Act→World→Prop} {a:Act} {w:World}
    (hy:YieldsR R P ops w oi v a) (h:eOpX P ops X E j K (a.put oi.dst v) w) :
    eOpX P ops X E j (fun a' w'=>YieldsR R P ops w' oi v a'∧K (a'.put oi.dst v) w') a w:=by
  obtain ⟨h1,h2,h3⟩:=Oper.apart_spec hap
  unfold eOpX at *
  simp only [hj] at *
  rw [wanted_put oj a oi.dst v h1] at h
  split
  · rename_i hw
    simp only [hw,if_true] at h
    exact wp_putX (K:=fun a' w'=>May E j w w'∧K a' w') (execOp_put oj hsj a oi.dst v h1) h2 (fun b w' u hb hk=>⟨hk.1,hy.keep hT (hm _ _ hk.1) hb hsi h3,hk.2⟩) h
  · rename_i hw
    simp only [hw] at h
    exact ⟨hy.keep hT (hR _) rfl hsi h3,by rw [← Act.put_comm a v undef h2];exact h⟩
theorem eOp_monoX {E:List Nat} {i:Nat} {a:Act} {w:World} {K K':Act→World→Prop} (h:∀ a w,K a w→K' a w) (hh:eOpX P ops X E i K a w):eOpX P ops X E i K' a w:=by
  unfold eOpX at *
  split
  · rename_i ho;simp only [ho] at hh;exact h _ _ hh
  · rename_i o ho
    simp only [ho] at hh
    split
    · rename_i hw;simp only [hw,if_true] at hh;exact wp_of_safeX (fun a w hk=>⟨hk.1,h _ _ hk.2⟩) (fun _ _ _ hx=>hx) hh
    · rename_i hw;simp only [hw] at hh;exact h _ _ hh
theorem wpAnyX_first {R:World→World→Prop} (hR:∀ w,R w w) (hT:∀ a b c,R a b→R b c→R a c) {E:List Nat} {Q:Act→World→Prop} {i:Nat} {oi:Oper} {v:Value} (hi:ops[i]?=some oi)
    (hsel:∀ (j:Nat) (o:Oper) cs b,ops[j]?=some o→o.op ≠ .select cs b) (G:Array Bool→Prop)
    (hG:∀ listed j,G listed→j ∈ Region.ready md ops listed→j ≠ i→(∀ w w',May E j w w'→R w w')∧G (listed.setIfInBounds j true)) :
    ∀ (fuel:Nat) (listed:Array Bool) (a:Act) (w:World),
      (∀ j oj,ops[j]?=some oj→j ≠ i→listed.getD j true=false→(∀ e ∈ oj.after,Region.binds md e=true→e.on ≠ i)→oi.apart ops oj=true)→G listed →
      i ∈ Region.ready md ops listed→YieldsR R P ops w oi v a →
      wpAnyX P md ops X E Q fuel (listed.setIfInBounds i true) (a.put oi.dst v) w→wpAnyX P md ops X E Q (fuel + 1) listed a w:=by
  intro fuel
  induction fuel with
  | zero=>
    intro listed a w _ _ hr hy H
    refine ⟨fun h=>(by rw [h] at hr;cases hr),fun j hj=>?_⟩
    by_cases hji:j=i
    · subst hji;exact hy.eOpX hR hi H
    · have:=ready_mono hj hji
      rw [H.1] at this
      cases this
  | succ fuel ih=>
    intro listed a w hfree hg hr hy H
    refine ⟨fun h=>(by rw [h] at hr;cases hr),fun j hj=>?_⟩
    by_cases hji:j=i
    · subst hji;exact hy.eOpX hR hi H
    · have h1:=H.2 j (ready_mono hj hji)
      obtain ⟨hjun,oj,hoj,hall⟩:=mem_ready.1 hj
      have hnot:∀ e ∈ oj.after,Region.binds md e=true→e.on ≠ i:=fun e he hb heq=>by
        have h1:=hall e he hb
        have h0:=(mem_ready.1 hr).1
        rw [heq] at h1
        rcases Nat.lt_or_ge i listed.size with h' | h'
        · simp [h'] at h0 h1;rw [h0] at h1;cases h1
        · simp [Array.getElem?_eq_none h'] at h1
      obtain ⟨hmay,hg'⟩:=hG listed j hg hj hji
      have h2:=eOp_putX hR hT hoj (hfree j oj hoj hji hjun hnot) (fun cs b=>hsel i oi cs b hi) (fun cs b=>hsel j oj cs b hoj) hmay hy h1
      have hfree':∀ k ok,ops[k]?=some ok→k ≠ i→(listed.setIfInBounds j true).getD k true=false →
          (∀ e ∈ ok.after,Region.binds md e=true→e.on ≠ i)→oi.apart ops ok=true:=fun k ok hk hki hun hno=>by
        refine hfree k ok hk hki ?_ hno
        by_cases hjk:j=k
        · subst hjk;exact hjun
        · rw [getD_set_ne true hjk] at hun;exact hun
      refine eOp_monoX (fun a' w' h3=>ih (listed.setIfInBounds j true) a' w' hfree' hg' (ready_mono hr (Ne.symm hji)) h3.1 ?_) h2
      rw [Array.setIfInBounds_comm _ _ hji]
      exact h3.2
inductive Sx | pure | read | make | stop
  deriving DecidableEq
def stopQ (X:List PanicEntry→List Deferred→World→Prop):Exit→Act→World→Prop:=QX X
def wpStop (P:Program) (ops:Array Oper) (X:List PanicEntry→List Deferred→World→Prop) (Q:Act→World→Prop):List (Sx × Nat)→Act→World→Prop
  | [],a,w=>Q a w
  | (.pure,k) :: rest,a,w=>∃ o,ops[k]?=some o∧wpQuiet P ops (fun w'=>∃ n:AnyW,w'=n.v) (fun a'=>wpStop P ops X Q rest a' w) [o] a
  | (.read,k) :: rest,a,w=>∃ o,ops[k]?=some o∧wpQuiet P ops (fun w'=>∃ n:Up w,w'=n.v) (fun a'=>wpStop P ops X Q rest a' w) [o] a
  | (.make,k) :: rest,a,w=>∃ o,ops[k]?=some o∧wpList P ops (mixQ w (wpStop P ops X Q rest)) [o] a w
  | (.stop,k) :: _,a,w=>∃ o,ops[k]?=some o∧Region.wanted o (yielded ops a.tmps)=true∧wpList P ops (stopQ X) [o] a w
theorem stop_nil {Q:Act→World→Prop} {a:Act} {w:World} (h:Q a w):wpStop P ops X Q [] a w:=h
theorem stop_p {l:List Oper} {Q:Act→World→Prop} {k:Nat} {rest:List (Sx × Nat)} {a:Act} {w:World} {o:Oper} (ho:nth l k=some o)
    (h:wpQuiet P l.toArray (fun w'=>∃ n:AnyW,w'=n.v) (fun a'=>wpStop P l.toArray X Q rest a' w) [o] a):wpStop P l.toArray X Q ((.pure,k) :: rest) a w:=⟨o,by rw [← ho,nth_is];simp,h⟩
theorem stop_q {l:List Oper} {Q:Act→World→Prop} {k:Nat} {rest:List (Sx × Nat)} {a:Act} {w:World} {o:Oper} (ho:nth l k=some o)
    (h:wpQuiet P l.toArray (fun w'=>∃ n:Up w,w'=n.v) (fun a'=>wpStop P l.toArray X Q rest a' w) [o] a):wpStop P l.toArray X Q ((.read,k) :: rest) a w:=⟨o,by rw [← ho,nth_is];simp,h⟩
theorem stop_n {l:List Oper} {Q:Act→World→Prop} {k:Nat} {rest:List (Sx × Nat)} {a:Act} {w:World} {o:Oper} (ho:nth l k=some o)
    (h:wpList P l.toArray (mixQ w (wpStop P l.toArray X Q rest)) [o] a w):wpStop P l.toArray X Q ((.make,k) :: rest) a w:=⟨o,by rw [← ho,nth_is];simp,h⟩
theorem stop_x {l:List Oper} {Q:Act→World→Prop} {k:Nat} {rest:List (Sx × Nat)} {a:Act} {w:World} {o:Oper} (ho:nth l k=some o) (hw:Region.wanted o (yielded l.toArray a.tmps)=true)
    (h:wpList P l.toArray (stopQ X) [o] a w):wpStop P l.toArray X Q ((.stop,k) :: rest) a w:=⟨o,by rw [← ho,nth_is];simp,hw,h⟩
def stopB (md:Region.Mode) (ops:Array Oper):List (Sx × Nat)→Array Bool→Bool
  | [],listed=>(Region.ready md ops listed).isEmpty
  | (.pure,k) :: rest,listed=>(Region.ready md ops listed).contains k && Region.free md ops listed k && (match ops[k]? with | some o=>plainOpE o.op | none=>false) && stopB md ops rest (listed.setIfInBounds k true)
  | (.read,k) :: rest,listed=>(Region.ready md ops listed).contains k && Region.free md ops listed k && (match ops[k]? with | some o=>plainOpE o.op | none=>false) && stopB md ops rest (listed.setIfInBounds k true)
  | (.make,k) :: rest,listed=>decide (Region.ready md ops listed=[k]) && stopB md ops rest (listed.setIfInBounds k true)
  | (.stop,k) :: _,listed=>decide (Region.ready md ops listed=[k])
theorem wpAnyX_ord {Q:Act→World→Prop} (hs:Region.noSelect ops=true):∀ (ord:List (Sx × Nat)) (fuel:Nat) (listed:Array Bool) (a:Act) (w:World),ord.length≤fuel→stopB md ops ord listed=true→wpStop P ops X Q ord a w→((∀ k,(Sx.stop,k) ∉ ord)→ord.length=fuel)→wpAnyX P md ops X [] Q fuel listed a w
  | [],fuel,listed,a,w,hl,hB,h,he=>by
    obtain rfl:0=fuel:=he (by simp)
    exact ⟨by simpa [stopB] using hB,h⟩
  | (.pure,k) :: rest,fuel,listed,a,w,hl,hB,⟨o,ho,h⟩,he=>by
    simp only [stopB,Bool.and_eq_true] at hB
    obtain ⟨⟨⟨hr,hf⟩,hp⟩,hB'⟩:=hB
    rw [ho] at hp
    obtain ⟨fuel,rfl⟩:∃ g,fuel=g + 1:=⟨fuel - 1,by simp at hl;omega⟩
    obtain ⟨v,hy,hK⟩:=yieldsR_of_quiet (R:=fun _ _=>True) (w:=w) (fun w' _=>⟨⟨w'⟩,rfl⟩) hp h
    exact wpAnyX_first (R:=fun _ _=>True) (fun _=>trivial) (fun _ _ _ _ _=>trivial) ho (Region.noSelect_spec hs) (fun _=>True) (fun _ _ _ _ _=>⟨fun _ _ _=>trivial,trivial⟩) fuel listed a w (Region.free_spec ho hf) trivial (by simpa using hr) hy (wpAnyX_ord hs rest fuel _ _ _ (by simp at hl;omega) hB' hK (fun hj=>by have:=he (by simp [hj]);simp at this;omega))
  | (.read,k) :: rest,fuel,listed,a,w,hl,hB,⟨o,ho,h⟩,he=>by
    simp only [stopB,Bool.and_eq_true] at hB
    obtain ⟨⟨⟨hr,hf⟩,hp⟩,hB'⟩:=hB
    rw [ho] at hp
    obtain ⟨fuel,rfl⟩:∃ g,fuel=g + 1:=⟨fuel - 1,by simp at hl;omega⟩
    obtain ⟨v,hy,hK⟩:=yieldsR_of_quiet (R:=fun w w'=>Below w.heap.size w w') (w:=w) (fun w' hb=>⟨⟨w',hb⟩,rfl⟩) hp h
    exact wpAnyX_first (R:=fun w w'=>Below w.heap.size w w') (fun w=>Below.refl _ w) (fun a b c h1 h2=>h1.trans (h2.mono h1.size)) ho (Region.noSelect_spec hs) (fun _=>True) (fun _ _ _ _ _=>⟨fun w w' hm=>hm.elim (fun x=>by cases x) id,trivial⟩) fuel listed a w (Region.free_spec ho hf) trivial (by simpa using hr) hy (wpAnyX_ord hs rest fuel _ _ _ (by simp at hl;omega) hB' hK (fun hj=>by have:=he (by simp [hj]);simp at this;omega))
  | (.make,k) :: rest,fuel,listed,a,w,hl,hB,⟨o,ho,h⟩,he=>by
    simp only [stopB,Bool.and_eq_true,decide_eq_true_eq] at hB
    obtain ⟨hr,hB'⟩:=hB
    obtain ⟨fuel,rfl⟩:∃ g,fuel=g + 1:=⟨fuel - 1,by simp at hl;omega⟩
    have go:=fun a w (hk:wpStop P ops X Q rest a w)=>wpAnyX_ord hs rest fuel (listed.setIfInBounds k true) a w (by simp at hl;omega) hB' hk (fun hj=>by have:=he (by simp [hj]);simp at this;omega)
    refine ⟨fun h0=>(by rw [h0] at hr;cases hr),fun i hi=>?_⟩
    rw [hr] at hi
    obtain rfl:i=k:=by simpa using hi
    unfold eOpX
    simp only [ho]
    unfold wpList at h
    split
    · rename_i hw
      simp only [hw,if_true] at h
      rcases h with h | ⟨_,_,_,hf⟩
      · have h2:=safe_of_wp (K:=wpStop P ops X Q rest) h
        exact wp_of_safe (fun a w hk=>⟨Or.inr hk.1,go _ _ hk.2⟩) h2
      · exact absurd hf.1 (by simp)
    · rename_i hw
      simp only [hw] at h
      exact go _ _ h.2.2
  | (.stop,k) :: rest,fuel,listed,a,w,hl,hB,⟨o,ho,hwn,h⟩,_=>by
    simp only [stopB,decide_eq_true_eq] at hB
    obtain ⟨fuel,rfl⟩:∃ g,fuel=g + 1:=⟨fuel - 1,by simp at hl;omega⟩
    refine ⟨fun h0=>(by rw [h0] at hB;cases hB),fun i hi=>?_⟩
    rw [hB] at hi
    obtain rfl:i=k:=by simpa using hi
    unfold eOpX
    simp only [ho]
    unfold wpList at h
    rw [if_pos hwn] at h ⊢
    rcases h with h | ⟨_,_,_,hf⟩
    · exact wp_of_safeX (fun a w hk=>False.elim hk) (fun _ _ _ hx=>hx) h
    · exact False.elim hf
theorem wp_region_stop (X:List PanicEntry→List Deferred→World→Prop) {id:Nat} {Q:Exit→Act→World→Prop} {a:Act} {w:World} {l:List Oper} (ord:List (Sx × Nat)) (hm:P.follows .mixedOrders=true)
    (hB:(Region.noSelect l.toArray && decide (ord.length≤l.length) && (decide (ord.length=l.length) || (ord.map (·.1)).contains Sx.stop) && stopB .any l.toArray ord (Array.replicate l.length false))=true)
    (hX:∀ ch a w,X ch a.defers w→Q (.panic ch) a w)
    (h:wpStop P l.toArray X (fun a' w'=>Q .normal a' w') ord a w.drew):(Code.region id l.toArray true).wp P Q a w:=by
  simp only [Bool.and_eq_true,Bool.or_eq_true,decide_eq_true_eq] at hB
  obtain ⟨⟨⟨hs,hl⟩,he⟩,hB⟩:=hB
  refine wp_region_any hm ?_
  have:=wpAny_of_X (X:=X) (Q':=Q) hX (fun a w h=>h) _ _ _ _ (wpAnyX_ord (md:=.any) hs ord l.length _ a w.drew hl hB h (fun hno=>by
    rcases he with he | he
    · exact he
    · simp only [List.contains_iff_mem,List.mem_map] at he
      obtain ⟨⟨s,j⟩,hj,e⟩:=he
      simp only at e
      subst e
      exact absurd hj (hno j)))
  simpa using this
end
end Go.Proofs.YtbleojodidbhiaaGreatDoor
set_option linter.unusedVariables false
namespace Go.Proofs.YtbleojodidbhiaaGreatDoor
open Go.RowKit
theorem flat_snoc {α:Type} (f:α→List UInt8) {l:List α} {k:Nat} (hk:k < l.length):(l.take (k + 1)).flatMap f=(l.take k).flatMap f ++ f l[k]:=by
 rw [List.take_succ_eq_append_getElem hk,List.flatMap_append]
 simp
theorem flatB_len {α:Type} (f:α→List UInt8) (m:Nat):∀ (l:List α),(∀ x ∈ l,(f x).length≤m)→(l.flatMap f).length≤m * l.length
 | [],_=>Nat.le_refl _
 | x :: l,h=>by
  have h1:=h x (List.mem_cons_self ..)
  have h2:=flatB_len f m l (fun y hy=>h y (List.mem_cons_of_mem _ hy))
  rw [List.flatMap_cons,List.length_append,List.length_cons,Nat.mul_add]
  omega
theorem amount_len (x:ByteArray) (q v:Int) (hx:x.size≤1000) (hq:I64 q) (hv:I64 v):(amountT x q v).length≤1100:=by
 have h1:=Lib.itoa_length_le q hq.1 hq.2
 have h2:=amt_len v hv.1 hv.2
 have e:x.data.toList.length=x.size:=by simp
 simp only [amountT,amT,List.length_cons,List.length_append,byt_length,e]
 omega
set_option maxRecDepth 20000 in
set_option maxHeartbeats 4000000 in
theorem dat_any {w:World} {B cb ph:Nat} {sv cv:Value} {h:Hs} (a:DkAt w B cb ph sv cv h) (ho:HsOk h) (hn:h.ls.length≤10000) (hg:GroundD B w) (ws:List (List UInt8)) (v:Value) (hw:WsAt w v ws) (hl:ws.length≤100000) (hj:(joinB ws).length≤100000) :
  Calls Tryz.prog 69 #[.pointer (some ⟨cb,0,none⟩),v] w (DkP w B cb ph sv cv (atA h ws)):=by
 have hz:∀ t ∈ ws,t.length≤100000:=fun t ht=>Nat.le_trans (mem_join ht) hj
 clear hl hj
 by_cases hk:ws.length=2
 rotate_left
 ·have e:atA h ws=anE h 3:=by
   unfold atA
   split
   ·exact absurd rfl hk
   ·rfl
  rw [e]
  obtain ⟨ad,cap,rfl,-,-⟩:=hw
  have hC:=dcount_bad ad ws.length cap 2 w (by omega)
  unfold thr at hC
  have HP:=hidE (fun W' (hb:Below w.heap.size w W')=>DkP.err (c:=3) a hb (by decide))
  clear a ho hg e hz hn
  go_enter Tryz.func69,Tryz.ntmps69
  go_wp2_with fail
  refine hC.mono ?_
  rintro x w1 ⟨rfl,hw1⟩
  subst w1
  clear hC
  go_wp2
  exact ⟨rfl,HP.out _ (Below.refl _ _)⟩
 obtain ⟨t0,t1,rfl⟩:∃ t0 t1,ws=[t0,t1]:=by
  match ws,hk with
  | [x,y],_=>exact ⟨x,y,rfl⟩
 obtain ⟨ad,cap,rfl,-,hx | ⟨bk,o,rfl,lt,c⟩⟩:=hw
 ·cases hx
 have c0:w.cell? ⟨bk,o + 0,none⟩=some (.string (ba t0)):=c 0 t0 rfl
 have z0:(ba t0).size≤100000:=by rw [ba_size];exact hz t0 (by simp)
 have c1:w.cell? ⟨bk,o + 1,none⟩=some (.string (ba t1)):=c 1 t1 rfl
 have z1:(ba t1).size≤100000:=by rw [ba_size];exact hz t1 (by simp)
 clear c hz
 rw [Nat.add_zero] at c0
 have hC:=dcount_ok (some ⟨bk,o,none⟩) 2 cap 2 w rfl
 rcases hd:dparsed t0 with _ | n
 ·have e:atA h [t0,t1]=anE h 3:=by unfold atA;simp only [hd]
  rw [e]
  have HP:=hidE (fun W' (hb:Below w.heap.size w W')=>DkP.err (c:=3) a hb (by decide))
  obtain ⟨W0,hW0⟩:∃ W,W=w.drew:=⟨_,rfl⟩
  have hb0:Below w.heap.size w W0:=by rw [hW0];exact below_drew _
  have hU:=up_ne
  have hA:=anyW_ne
  have d0:W0.cell? ⟨bk,o,none⟩=some (.string (ba t0)):=(hb0.cell (p:=⟨bk,o,none⟩) lt).trans c0
  have f0:=fun n:Up W0=>n.cell d0
  have d1:W0.cell? ⟨bk,o + 1,none⟩=some (.string (ba t1)):=(hb0.cell (p:=⟨bk,o + 1,none⟩) lt).trans c1
  have f1:=fun n:Up W0=>n.cell d1
  have HG0:=hidE (hg.below hb0)
  have HB0:=hidE hb0
  have HW0:=hidE hW0
  clear hb0 hW0 d0 d1
  have hD:=ddate_bad (ba t0) W0 HG0.out.glob.h.ev.len HG0.out.glob.er (by unfold maxLen;omega) (by rw [ba_data];exact hd)
  unfold thr at hD
  clear a ho hg hk hn e hd
  go_enter Tryz.func69,Tryz.ntmps69
  go_wp2_with fail
  refine hC.mono ?_
  rintro x w1 ⟨rfl,hw1⟩
  subst w1
  clear hC
  go_wp2_with fail
  refine wp_region_stop (fun ch ds W'=>ds=[]∧DkP w B cb ph sv cv (anE h 3) (.panicked ch) W') [(.pure,0),(.pure,1),(.read,2),(.pure,4),(.pure,5),(.read,6),(.stop,3)] (by kernel_rfl) (by kernel_rfl) (fun ch a w hx=>⟨hx.1,hx.2⟩) ?_
  rw [← HW0.out]
  repeat ((first | refine stop_p rfl ?_ | refine stop_q rfl ?_);go_big_quiet_step (fail);refine wpQuiet_nil ?_)
  refine stop_x rfl rfl ?_
  go_wp2_with fail
  refine hD.mono ?_
  rintro x w2 ⟨rfl,hb2⟩
  exact ⟨rfl,HP.out _ (HB0.out.trans (hb2.mono HB0.out.size))⟩
 rcases hm1:numO t1 with _ | u1
 ·have e:atA h [t0,t1]=anE h 3:=by unfold atA;simp only [hd,hm1]
  rw [e]
  have HP:=hidE (fun W' (hb:Below w.heap.size w W')=>DkP.err (c:=3) a hb (by decide))
  obtain ⟨W0,hW0⟩:∃ W,W=w.drew:=⟨_,rfl⟩
  have hb0:Below w.heap.size w W0:=by rw [hW0];exact below_drew _
  have hU:=up_ne
  have hA:=anyW_ne
  have d0:W0.cell? ⟨bk,o,none⟩=some (.string (ba t0)):=(hb0.cell (p:=⟨bk,o,none⟩) lt).trans c0
  have f0:=fun n:Up W0=>n.cell d0
  have d1:W0.cell? ⟨bk,o + 1,none⟩=some (.string (ba t1)):=(hb0.cell (p:=⟨bk,o + 1,none⟩) lt).trans c1
  have f1:=fun n:Up W0=>n.cell d1
  have HG0:=hidE (hg.below hb0)
  have HB0:=hidE hb0
  have HW0:=hidE hW0
  clear hb0 hW0 d0 d1
  have hD:=ddate_ok (ba t0) n W0 HG0.out.glob.h.ev.len (by rw [ba_data];exact hd)
  have N1:=fun W hW=>dnum_bad (ba t1) W hW (by omega) (by rw [ba_data];exact hm1)
  unfold thr at N1
  clear a ho hg hk hn e hd hm1
  go_enter Tryz.func69,Tryz.ntmps69
  go_wp2_with fail
  refine hC.mono ?_
  rintro x w1 ⟨rfl,hw1⟩
  subst w1
  clear hC
  go_wp2_with fail
  refine wp_region_stop (fun ch ds W'=>ds=[]∧DkP w B cb ph sv cv (anE h 3) (.panicked ch) W') [(.pure,0),(.pure,1),(.read,2),(.pure,4),(.pure,5),(.read,6),(.make,3),(.stop,7)] (by kernel_rfl) (by kernel_rfl) (fun ch a w hx=>⟨hx.1,hx.2⟩) ?_
  rw [← HW0.out]
  repeat ((first | refine stop_p rfl ?_ | refine stop_q rfl ?_);go_big_quiet_step (fail);refine wpQuiet_nil ?_)
  refine stop_n rfl ?_
  go_wp2_with fail
  refine hD.mono ?_
  rintro x w2 ⟨rfl,hb2⟩
  have hbb2:=hb2
  have HB2:Hid (Below w.heap.size w w2):=HB0.out.trans (hb2.mono HB0.out.size)
  go_wp2_with fail
  refine ⟨rfl,hb2,?_⟩
  repeat ((first | refine stop_p rfl ?_ | refine stop_q rfl ?_);go_big_quiet_step (fail);refine wpQuiet_nil ?_)
  refine stop_x rfl rfl ?_
  go_wp2_with fail
  refine (N1 w2 (HG0.out.below hbb2).glob.h.ev.num).mono ?_
  rintro x w9 ⟨rfl,hb9⟩
  exact ⟨rfl,HP.out _ (HB2.out.trans (hb9.mono HB2.out.size))⟩
 ·have e:atA h [t0,t1]=⟨atT h n u1,0,h⟩:=by unfold atA;simp only [hd,hm1]
  rw [e]
  have HP:=hidE (fun W' (hb:Below w.heap.size w W')=>DkP.same (t:=atT h n u1) a hb)
  obtain ⟨W0,hW0⟩:∃ W,W=w.drew:=⟨_,rfl⟩
  have hb0:Below w.heap.size w W0:=by rw [hW0];exact below_drew _
  have hU:=up_ne
  have hA:=anyW_ne
  have d0:W0.cell? ⟨bk,o,none⟩=some (.string (ba t0)):=(hb0.cell (p:=⟨bk,o,none⟩) lt).trans c0
  have f0:=fun n:Up W0=>n.cell d0
  have d1:W0.cell? ⟨bk,o + 1,none⟩=some (.string (ba t1)):=(hb0.cell (p:=⟨bk,o + 1,none⟩) lt).trans c1
  have f1:=fun n:Up W0=>n.cell d1
  have HG0:=hidE (hg.below hb0)
  have HB0:=hidE hb0
  have HW0:=hidE hW0
  clear hb0 hW0 d0 d1
  have hD:=ddate_ok (ba t0) n W0 HG0.out.glob.h.ev.len (by rw [ba_data];exact hd)
  have N1:=fun W hW=>dnum_ok (ba t1) u1 W hW (by omega) (by rw [ba_data];exact hm1)
  have HA:=hidE a
  have HO:=hidE ho
  clear a ho hg hk hn e hd hm1
  go_enter Tryz.func69,Tryz.ntmps69
  go_wp2_with fail
  refine hC.mono ?_
  rintro x w1 ⟨rfl,hw1⟩
  subst w1
  clear hC
  go_wp2_with fail
  refine wp_region_stop (fun _ _ _=>False) [(.pure,0),(.pure,1),(.read,2),(.pure,4),(.pure,5),(.read,6),(.make,3),(.make,7),(.pure,8),(.pure,9)] (by kernel_rfl) (by kernel_rfl) (fun ch a w hx=>False.elim hx) ?_
  rw [← HW0.out]
  repeat ((first | refine stop_p rfl ?_ | refine stop_q rfl ?_);go_big_quiet_step (fail);refine wpQuiet_nil ?_)
  refine stop_n rfl ?_
  go_wp2_with fail
  refine hD.mono ?_
  rintro x w2 ⟨rfl,hb2⟩
  have hbb2:=hb2
  have HB2:Hid (Below w.heap.size w w2):=HB0.out.trans (hb2.mono HB0.out.size)
  go_wp2_with fail
  refine ⟨rfl,hb2,?_⟩
  repeat ((first | refine stop_p rfl ?_ | refine stop_q rfl ?_);go_big_quiet_step (fail);refine wpQuiet_nil ?_)
  refine stop_n rfl ?_
  go_wp2_with fail
  refine (N1 w2 (HG0.out.below hbb2).glob.h.ev.num).mono ?_
  rintro x w3 ⟨rfl,hb3⟩
  have HB3:Hid (Below w.heap.size w w3):=HB2.out.trans (hb3.mono HB2.out.size)
  have hbb3:=hbb2.trans (hb3.mono hbb2.size)
  go_wp2_with fail
  refine ⟨rfl,hb3,?_⟩
  repeat ((first | refine stop_p rfl ?_ | refine stop_q rfl ?_);go_big_quiet_step (fail);refine wpQuiet_nil ?_)
  refine stop_nil ?_
  have hAW:=HA.out.below HB3.out
  have cc:=hAW.cc
  have hAt:=reat_any hAW.hs.bk (by have:=HO.out.inv.full;omega) n u1 (fun e he=>(as_allD HO.out.inv _ e (List.mem_filter.1 he).1).2)
  clear hD N1 f0 f1 c0 c1
  go_wp2_with fail
  refine hAt.mono ?_
  rintro x w5 ⟨v1,ks,rfl,hks,hown,hb5⟩
  rw [show goS stk00 (ordd (evUp h.bk n u1))=stUp h.bk n u1 from rfl] at hown
  obtain ⟨ad1,cp1,hv1⟩:=own_lenN hown
  subst hv1
  have HKO:Hid (keysOf (fun x=>(stUp h.bk n u1 x).ys ≠ [])=ks):=keysOf_is hks
  have HM:Hid (∀ x,StkOK 1000 (stUp h.bk n u1 x)):=fun x=>stUp_ok h.bk n u1 (by have:=HO.out.inv.full;omega) x
  have HQ:Hid (∀ x,I64 (sumQ (stUp h.bk n u1 x).ys)):=fun x=>by have:=st_bd (HM.out x);constructor <;> omega
  have HV:Hid (∀ x,I64 (sumV (stUp h.bk n u1 x).ys)):=fun x=>by have:=st_bd (HM.out x);constructor <;> omega
  have hkl:ks.length≤1000:=by
   have h1:=keys_len hks
   have h2:=evUp_len h.bk n u1
   have:=HO.out.inv.full
   omega
  have HSZ:Hid (∀ x ∈ ks,x.size≤1000):=fun x hx=>by
   obtain ⟨e,he,rfl⟩:=some_item ((hks.mem x).1 hx)
   have h1:=(ordd_rt _ e he).1.1.2
   rw [eba_len] at h1
   omega
  have HO5:=hidE hown
  have HB5:Hid (Below w.heap.size w w5):=HB3.out.trans (hb5.mono HB3.out.size)
  have HGN:Hid (GroundD B w5):=(HG0.out.below hbb3).below hb5
  obtain ⟨f,hf⟩:∃ f:ByteArray→List UInt8,f=fun z=>amountT z (sumQ (stUp h.bk n u1 z).ys) (sumV (stUp h.bk n u1 z).ys):=⟨_,rfl⟩
  have HF:=hidE hf
  have HFL:Hid (∀ x ∈ ks,(f x).length≤1100):=fun x hx=>by
   rw [hf]
   exact amount_len _ _ _ (HSZ.out x hx) (HQ.out x) (HV.out x)
  have HFIN:Hid (ba (dAt ++ ks.flatMap f)=ba (atT h n u1)):=by
   show _=_
   rw [hf,← HKO.out]
   rfl
  clear hAt hks hown hAW cc hf
  go_wp2
  go_loopw [7,30] (fun s i wr=>∃ k:Nat,k≤ks.length∧i = .int .i64 k∧s = .string (ba (dAt ++ (ks.take k).flatMap f))∧Hid (Below w5.heap.size w5 wr)) (fun _ i _=>ks.length - (intOf i).toNat)
  case atStart=>exact ⟨0,Nat.zero_le _,rfl,rfl,Below.refl _ _⟩
  case round=>
   obtain ⟨k,hk,rfl,rfl,HB⟩:=hrel
   by_cases hlt:k < ks.length
   ·rcases own_form HO5.out with ⟨_,e2,_⟩ | ⟨g,cp,e1,hgB,hgl,_⟩
    ·rw [e2] at hlt;exact absurd hlt (Nat.not_lt_zero _)
    ·simp only [Value.slice.injEq] at e1
     obtain ⟨rfl,_,rfl⟩:=e1
     obtain ⟨x,hx⟩:∃ x,x=ks[k]:=⟨_,rfl⟩
     have q0:=(HB.out.cell (p:=⟨g,k * 3 + 0,none⟩) hgl).trans (own_cell (m:=3) (fun _=>rfl) HO5.out k 0 hlt (by omega)).1
     have q1:=(HB.out.cell (p:=⟨g,k * 3 + 1,none⟩) hgl).trans (own_cell (m:=3) (fun _=>rfl) HO5.out k 1 hlt (by omega)).1
     have q2:=(HB.out.cell (p:=⟨g,k * 3 + 2,none⟩) hgl).trans (own_cell (m:=3) (fun _=>rfl) HO5.out k 2 hlt (by omega)).1
     rw [← hx] at q0 q1 q2
     simp only [holdC,List.getElem?_cons_zero,List.getElem?_cons_succ,Nat.add_zero] at q0 q1 q2
     have hxm:x ∈ ks:=by rw [hx];exact List.getElem_mem hlt
     obtain ⟨q,hq⟩:∃ q:Int,q=sumQ (stUp h.bk n u1 x).ys:=⟨_,rfl⟩
     obtain ⟨v,hv⟩:∃ v:Int,v=sumV (stUp h.bk n u1 x).ys:=⟨_,rfl⟩
     have hAm:=fun W hW=>damount_any x q v W hW (HSZ.out x hxm) (by rw [hq];exact HQ.out x) (by rw [hv];exact HV.out x)
     rw [← hq] at q1
     rw [← hv] at q2
     have HS:Hid (ba (dAt ++ (ks.take k).flatMap f) ++ ba (amountT x q v)=ba (dAt ++ (ks.take (k + 1)).flatMap f)):=by
      show _=_
      rw [flat_snoc f hlt,← hx,HF.out,hq,hv]
      apply dba_ext
      simp [ba_data]
     have za:(ba (amountT x q v)).size≤1100:=by
      have:=HFL.out x hxm
      rw [HF.out] at this
      rw [ba_size,hq,hv];exact this
     have zs:(ba (dAt ++ (ks.take k).flatMap f)).size≤10000000:=by
      rw [ba_size,List.length_append]
      have h1:=flatB_len f 1100 (ks.take k) (fun y hy=>HFL.out y (List.mem_of_mem_take hy))
      rw [List.length_take] at h1
      have h2:(dAt:List UInt8).length≤10:=by decide
      have h3:min k ks.length≤1000:=by omega
      omega
     have hAmr:=hAm
     obtain ⟨s0,hs0⟩:∃ s,s=ba (dAt ++ (ks.take k).flatMap f):=⟨_,rfl⟩
     obtain ⟨s1,hs1⟩:∃ s,s=ba (amountT x q v):=⟨_,rfl⟩
     rw [← hs0] at HS zs ⊢
     rw [← hs1] at HS za hAmr
     have HAM:=hidE hAmr
     clear hs0 hs1 hq hv hx hAm hAmr
     have hba:Below w5.heap.size w5 (wr.alloc (.cells #[.string x,.int .i64 q,.int .i64 v] 162)):=HB.out.alloc HB.out.size _
     go_wp2_with fail
     refine (HAM.out _ (HGN.out.below hba).glob.h.ev.num).mono ?_
     rintro y w6 ⟨rfl,hb6⟩
     have HB6:Hid (Below w5.heap.size w5 w6):=hba.trans (hb6.mono hba.size)
     clear hba hb6
     go_wp2
     go_roundw
     case rel=>exact ⟨k + 1,by omega,by go_num,by rw [HS.out],HB6⟩
     case measure=>simp [intOf];omega
   ·have HE:Hid (ks.take k=ks):=by show _=_;rw [show k=ks.length by omega,List.take_length]
    have hnn:¬ (k:Int) < (ks.length:Int):=by omega
    have HBF:Hid (Below w.heap.size w wr):=HB5.out.trans (HB.out.mono HB5.out.size)
    rw [HE.out,HFIN.out]
    clear hlt hk
    go_wp2
    go_ret
    exact HP.out _ HBF.out
theorem df_item {b:Bk} {n t1 t2:Int} {x:ByteArray} (h:dfQ (stUp b n t2) (stUp b n t1) x ≠ 0∨dfV (stUp b n t2) (stUp b n t1) x ≠ 0):∃ e ∈ ordd (evUp b n t2) ++ ordd (evUp b n t1),e.item=x:=by
 by_cases h2:(stUp b n t2 x).ys=[]
 ·by_cases h1:(stUp b n t1 x).ys=[]
  ·exfalso
   have e2:=st_zero h2
   have e1:=st_zero h1
   unfold dfQ dfV at h
   rw [e2.1,e2.2,e1.1,e1.2] at h
   exact h.elim (fun c=>c rfl) (fun c=>c rfl)
  ·obtain ⟨e,he,hx⟩:=some_item (l:=evUp b n t1) h1
   exact ⟨e,List.mem_append.2 (Or.inr he),hx⟩
 ·obtain ⟨e,he,hx⟩:=some_item (l:=evUp b n t2) h2
  exact ⟨e,List.mem_append.2 (Or.inl he),hx⟩
theorem df_len {b:Bk} {n t1 t2:Int} {ks:List ByteArray} (h:Keys (fun z=>dfQ (stUp b n t2) (stUp b n t1) z ≠ 0∨dfV (stUp b n t2) (stUp b n t1) z ≠ 0) ks):ks.length≤(evUp b n t2).length + (evUp b n t1).length:=by
 have h1:=nodup_le ks ((ordd (evUp b n t2) ++ ordd (evUp b n t1)).map (·.item)) h.nodup fun x hx=>by
  obtain ⟨e,he,rfl⟩:=df_item ((h.mem x).1 hx)
  exact List.mem_map_of_mem he
 rw [List.length_map,List.length_append] at h1
 have h2:=ordd_len (evUp b n t2)
 have h3:=ordd_len (evUp b n t1)
 omega
set_option maxRecDepth 20000 in
set_option maxHeartbeats 4000000 in
theorem dchange_any {w:World} {B cb ph:Nat} {sv cv:Value} {h:Hs} (a:DkAt w B cb ph sv cv h) (ho:HsOk h) (hn:h.ls.length≤10000) (hg:GroundD B w) (ws:List (List UInt8)) (v:Value) (hw:WsAt w v ws) (hl:ws.length≤100000) (hj:(joinB ws).length≤100000) :
  Calls Tryz.prog 70 #[.pointer (some ⟨cb,0,none⟩),v] w (DkP w B cb ph sv cv (changeA h ws)):=by
 have hz:∀ t ∈ ws,t.length≤100000:=fun t ht=>Nat.le_trans (mem_join ht) hj
 clear hl hj
 by_cases hk:ws.length=3
 rotate_left
 ·have e:changeA h ws=anE h 3:=by
   unfold changeA
   split
   ·exact absurd rfl hk
   ·rfl
  rw [e]
  obtain ⟨ad,cap,rfl,-,-⟩:=hw
  have hC:=dcount_bad ad ws.length cap 3 w (by omega)
  unfold thr at hC
  have HP:=hidE (fun W' (hb:Below w.heap.size w W')=>DkP.err (c:=3) a hb (by decide))
  clear a ho hg e hz hn
  go_enter Tryz.func70,Tryz.ntmps70
  go_wp2_with fail
  refine hC.mono ?_
  rintro x w1 ⟨rfl,hw1⟩
  subst w1
  clear hC
  go_wp2
  exact ⟨rfl,HP.out _ (Below.refl _ _)⟩
 obtain ⟨t0,t1,t2,rfl⟩:∃ t0 t1 t2,ws=[t0,t1,t2]:=by
  match ws,hk with
  | [x,y,z],_=>exact ⟨x,y,z,rfl⟩
 obtain ⟨ad,cap,rfl,-,hx | ⟨bk,o,rfl,lt,c⟩⟩:=hw
 ·cases hx
 have c0:w.cell? ⟨bk,o + 0,none⟩=some (.string (ba t0)):=c 0 t0 rfl
 have z0:(ba t0).size≤100000:=by rw [ba_size];exact hz t0 (by simp)
 have c1:w.cell? ⟨bk,o + 1,none⟩=some (.string (ba t1)):=c 1 t1 rfl
 have z1:(ba t1).size≤100000:=by rw [ba_size];exact hz t1 (by simp)
 have c2:w.cell? ⟨bk,o + 2,none⟩=some (.string (ba t2)):=c 2 t2 rfl
 have z2:(ba t2).size≤100000:=by rw [ba_size];exact hz t2 (by simp)
 clear c hz
 rw [Nat.add_zero] at c0
 have hC:=dcount_ok (some ⟨bk,o,none⟩) 3 cap 3 w rfl
 rcases hd:dparsed t0 with _ | n
 ·have e:changeA h [t0,t1,t2]=anE h 3:=by unfold changeA;simp only [hd]
  rw [e]
  have HP:=hidE (fun W' (hb:Below w.heap.size w W')=>DkP.err (c:=3) a hb (by decide))
  obtain ⟨W0,hW0⟩:∃ W,W=w.drew:=⟨_,rfl⟩
  have hb0:Below w.heap.size w W0:=by rw [hW0];exact below_drew _
  have hU:=up_ne
  have hA:=anyW_ne
  have d0:W0.cell? ⟨bk,o,none⟩=some (.string (ba t0)):=(hb0.cell (p:=⟨bk,o,none⟩) lt).trans c0
  have f0:=fun n:Up W0=>n.cell d0
  have d1:W0.cell? ⟨bk,o + 1,none⟩=some (.string (ba t1)):=(hb0.cell (p:=⟨bk,o + 1,none⟩) lt).trans c1
  have f1:=fun n:Up W0=>n.cell d1
  have d2:W0.cell? ⟨bk,o + 2,none⟩=some (.string (ba t2)):=(hb0.cell (p:=⟨bk,o + 2,none⟩) lt).trans c2
  have f2:=fun n:Up W0=>n.cell d2
  have HG0:=hidE (hg.below hb0)
  have HB0:=hidE hb0
  have HW0:=hidE hW0
  clear hb0 hW0 d0 d1 d2
  have hD:=ddate_bad (ba t0) W0 HG0.out.glob.h.ev.len HG0.out.glob.er (by unfold maxLen;omega) (by rw [ba_data];exact hd)
  unfold thr at hD
  clear a ho hg hk hn e hd
  go_enter Tryz.func70,Tryz.ntmps70
  go_wp2_with fail
  refine hC.mono ?_
  rintro x w1 ⟨rfl,hw1⟩
  subst w1
  clear hC
  go_wp2_with fail
  refine wp_region_stop (fun ch ds W'=>ds=[]∧DkP w B cb ph sv cv (anE h 3) (.panicked ch) W') [(.pure,0),(.pure,1),(.read,2),(.pure,4),(.pure,5),(.read,6),(.pure,8),(.pure,9),(.read,10),(.stop,3)] (by kernel_rfl) (by kernel_rfl) (fun ch a w hx=>⟨hx.1,hx.2⟩) ?_
  rw [← HW0.out]
  repeat ((first | refine stop_p rfl ?_ | refine stop_q rfl ?_);go_big_quiet_step (fail);refine wpQuiet_nil ?_)
  refine stop_x rfl rfl ?_
  go_wp2_with fail
  refine hD.mono ?_
  rintro x w2 ⟨rfl,hb2⟩
  exact ⟨rfl,HP.out _ (HB0.out.trans (hb2.mono HB0.out.size))⟩
 rcases hm1:numO t1 with _ | u1
 ·have e:changeA h [t0,t1,t2]=anE h 3:=by unfold changeA;simp only [hd,hm1]
  rw [e]
  have HP:=hidE (fun W' (hb:Below w.heap.size w W')=>DkP.err (c:=3) a hb (by decide))
  obtain ⟨W0,hW0⟩:∃ W,W=w.drew:=⟨_,rfl⟩
  have hb0:Below w.heap.size w W0:=by rw [hW0];exact below_drew _
  have hU:=up_ne
  have hA:=anyW_ne
  have d0:W0.cell? ⟨bk,o,none⟩=some (.string (ba t0)):=(hb0.cell (p:=⟨bk,o,none⟩) lt).trans c0
  have f0:=fun n:Up W0=>n.cell d0
  have d1:W0.cell? ⟨bk,o + 1,none⟩=some (.string (ba t1)):=(hb0.cell (p:=⟨bk,o + 1,none⟩) lt).trans c1
  have f1:=fun n:Up W0=>n.cell d1
  have d2:W0.cell? ⟨bk,o + 2,none⟩=some (.string (ba t2)):=(hb0.cell (p:=⟨bk,o + 2,none⟩) lt).trans c2
  have f2:=fun n:Up W0=>n.cell d2
  have HG0:=hidE (hg.below hb0)
  have HB0:=hidE hb0
  have HW0:=hidE hW0
  clear hb0 hW0 d0 d1 d2
  have hD:=ddate_ok (ba t0) n W0 HG0.out.glob.h.ev.len (by rw [ba_data];exact hd)
  have N1:=fun W hW=>dnum_bad (ba t1) W hW (by omega) (by rw [ba_data];exact hm1)
  unfold thr at N1
  clear a ho hg hk hn e hd hm1
  go_enter Tryz.func70,Tryz.ntmps70
  go_wp2_with fail
  refine hC.mono ?_
  rintro x w1 ⟨rfl,hw1⟩
  subst w1
  clear hC
  go_wp2_with fail
  refine wp_region_stop (fun ch ds W'=>ds=[]∧DkP w B cb ph sv cv (anE h 3) (.panicked ch) W') [(.pure,0),(.pure,1),(.read,2),(.pure,4),(.pure,5),(.read,6),(.pure,8),(.pure,9),(.read,10),(.make,3),(.stop,7)] (by kernel_rfl) (by kernel_rfl) (fun ch a w hx=>⟨hx.1,hx.2⟩) ?_
  rw [← HW0.out]
  repeat ((first | refine stop_p rfl ?_ | refine stop_q rfl ?_);go_big_quiet_step (fail);refine wpQuiet_nil ?_)
  refine stop_n rfl ?_
  go_wp2_with fail
  refine hD.mono ?_
  rintro x w2 ⟨rfl,hb2⟩
  have hbb2:=hb2
  have HB2:Hid (Below w.heap.size w w2):=HB0.out.trans (hb2.mono HB0.out.size)
  go_wp2_with fail
  refine ⟨rfl,hb2,?_⟩
  repeat ((first | refine stop_p rfl ?_ | refine stop_q rfl ?_);go_big_quiet_step (fail);refine wpQuiet_nil ?_)
  refine stop_x rfl rfl ?_
  go_wp2_with fail
  refine (N1 w2 (HG0.out.below hbb2).glob.h.ev.num).mono ?_
  rintro x w9 ⟨rfl,hb9⟩
  exact ⟨rfl,HP.out _ (HB2.out.trans (hb9.mono HB2.out.size))⟩
 rcases hm2:numO t2 with _ | u2
 ·have e:changeA h [t0,t1,t2]=anE h 3:=by unfold changeA;simp only [hd,hm1,hm2]
  rw [e]
  have HP:=hidE (fun W' (hb:Below w.heap.size w W')=>DkP.err (c:=3) a hb (by decide))
  obtain ⟨W0,hW0⟩:∃ W,W=w.drew:=⟨_,rfl⟩
  have hb0:Below w.heap.size w W0:=by rw [hW0];exact below_drew _
  have hU:=up_ne
  have hA:=anyW_ne
  have d0:W0.cell? ⟨bk,o,none⟩=some (.string (ba t0)):=(hb0.cell (p:=⟨bk,o,none⟩) lt).trans c0
  have f0:=fun n:Up W0=>n.cell d0
  have d1:W0.cell? ⟨bk,o + 1,none⟩=some (.string (ba t1)):=(hb0.cell (p:=⟨bk,o + 1,none⟩) lt).trans c1
  have f1:=fun n:Up W0=>n.cell d1
  have d2:W0.cell? ⟨bk,o + 2,none⟩=some (.string (ba t2)):=(hb0.cell (p:=⟨bk,o + 2,none⟩) lt).trans c2
  have f2:=fun n:Up W0=>n.cell d2
  have HG0:=hidE (hg.below hb0)
  have HB0:=hidE hb0
  have HW0:=hidE hW0
  clear hb0 hW0 d0 d1 d2
  have hD:=ddate_ok (ba t0) n W0 HG0.out.glob.h.ev.len (by rw [ba_data];exact hd)
  have N1:=fun W hW=>dnum_ok (ba t1) u1 W hW (by omega) (by rw [ba_data];exact hm1)
  have N2:=fun W hW=>dnum_bad (ba t2) W hW (by omega) (by rw [ba_data];exact hm2)
  unfold thr at N2
  clear a ho hg hk hn e hd hm1 hm2
  go_enter Tryz.func70,Tryz.ntmps70
  go_wp2_with fail
  refine hC.mono ?_
  rintro x w1 ⟨rfl,hw1⟩
  subst w1
  clear hC
  go_wp2_with fail
  refine wp_region_stop (fun ch ds W'=>ds=[]∧DkP w B cb ph sv cv (anE h 3) (.panicked ch) W') [(.pure,0),(.pure,1),(.read,2),(.pure,4),(.pure,5),(.read,6),(.pure,8),(.pure,9),(.read,10),(.make,3),(.make,7),(.stop,11)] (by kernel_rfl) (by kernel_rfl) (fun ch a w hx=>⟨hx.1,hx.2⟩) ?_
  rw [← HW0.out]
  repeat ((first | refine stop_p rfl ?_ | refine stop_q rfl ?_);go_big_quiet_step (fail);refine wpQuiet_nil ?_)
  refine stop_n rfl ?_
  go_wp2_with fail
  refine hD.mono ?_
  rintro x w2 ⟨rfl,hb2⟩
  have hbb2:=hb2
  have HB2:Hid (Below w.heap.size w w2):=HB0.out.trans (hb2.mono HB0.out.size)
  go_wp2_with fail
  refine ⟨rfl,hb2,?_⟩
  repeat ((first | refine stop_p rfl ?_ | refine stop_q rfl ?_);go_big_quiet_step (fail);refine wpQuiet_nil ?_)
  refine stop_n rfl ?_
  go_wp2_with fail
  refine (N1 w2 (HG0.out.below hbb2).glob.h.ev.num).mono ?_
  rintro x w3 ⟨rfl,hb3⟩
  have HB3:Hid (Below w.heap.size w w3):=HB2.out.trans (hb3.mono HB2.out.size)
  have hbb3:=hbb2.trans (hb3.mono hbb2.size)
  go_wp2_with fail
  refine ⟨rfl,hb3,?_⟩
  repeat ((first | refine stop_p rfl ?_ | refine stop_q rfl ?_);go_big_quiet_step (fail);refine wpQuiet_nil ?_)
  refine stop_x rfl rfl ?_
  go_wp2_with fail
  refine (N2 w3 (HG0.out.below hbb3).glob.h.ev.num).mono ?_
  rintro x w9 ⟨rfl,hb9⟩
  exact ⟨rfl,HP.out _ (HB3.out.trans (hb9.mono HB3.out.size))⟩
 ·have e:changeA h [t0,t1,t2]=⟨changeT h n u1 u2,0,h⟩:=by unfold changeA;simp only [hd,hm1,hm2]
  rw [e]
  have HP:=hidE (fun W' (hb:Below w.heap.size w W')=>DkP.same (t:=changeT h n u1 u2) a hb)
  obtain ⟨W0,hW0⟩:∃ W,W=w.drew:=⟨_,rfl⟩
  have hb0:Below w.heap.size w W0:=by rw [hW0];exact below_drew _
  have hU:=up_ne
  have hA:=anyW_ne
  have d0:W0.cell? ⟨bk,o,none⟩=some (.string (ba t0)):=(hb0.cell (p:=⟨bk,o,none⟩) lt).trans c0
  have f0:=fun n:Up W0=>n.cell d0
  have d1:W0.cell? ⟨bk,o + 1,none⟩=some (.string (ba t1)):=(hb0.cell (p:=⟨bk,o + 1,none⟩) lt).trans c1
  have f1:=fun n:Up W0=>n.cell d1
  have d2:W0.cell? ⟨bk,o + 2,none⟩=some (.string (ba t2)):=(hb0.cell (p:=⟨bk,o + 2,none⟩) lt).trans c2
  have f2:=fun n:Up W0=>n.cell d2
  have HG0:=hidE (hg.below hb0)
  have HB0:=hidE hb0
  have HW0:=hidE hW0
  clear hb0 hW0 d0 d1 d2
  have hD:=ddate_ok (ba t0) n W0 HG0.out.glob.h.ev.len (by rw [ba_data];exact hd)
  have N1:=fun W hW=>dnum_ok (ba t1) u1 W hW (by omega) (by rw [ba_data];exact hm1)
  have N2:=fun W hW=>dnum_ok (ba t2) u2 W hW (by omega) (by rw [ba_data];exact hm2)
  have HA:=hidE a
  have HO:=hidE ho
  clear a ho hg hk hn e hd hm1 hm2
  go_enter Tryz.func70,Tryz.ntmps70
  go_wp2_with fail
  refine hC.mono ?_
  rintro x w1 ⟨rfl,hw1⟩
  subst w1
  clear hC
  go_wp2_with fail
  refine wp_region_stop (fun _ _ _=>False) [(.pure,0),(.pure,1),(.read,2),(.pure,4),(.pure,5),(.read,6),(.pure,8),(.pure,9),(.read,10),(.make,3),(.make,7),(.make,11),(.pure,12),(.pure,13),(.pure,14)] (by kernel_rfl) (by kernel_rfl) (fun ch a w hx=>False.elim hx) ?_
  rw [← HW0.out]
  repeat ((first | refine stop_p rfl ?_ | refine stop_q rfl ?_);go_big_quiet_step (fail);refine wpQuiet_nil ?_)
  refine stop_n rfl ?_
  go_wp2_with fail
  refine hD.mono ?_
  rintro x w2 ⟨rfl,hb2⟩
  have hbb2:=hb2
  have HB2:Hid (Below w.heap.size w w2):=HB0.out.trans (hb2.mono HB0.out.size)
  go_wp2_with fail
  refine ⟨rfl,hb2,?_⟩
  repeat ((first | refine stop_p rfl ?_ | refine stop_q rfl ?_);go_big_quiet_step (fail);refine wpQuiet_nil ?_)
  refine stop_n rfl ?_
  go_wp2_with fail
  refine (N1 w2 (HG0.out.below hbb2).glob.h.ev.num).mono ?_
  rintro x w3 ⟨rfl,hb3⟩
  have HB3:Hid (Below w.heap.size w w3):=HB2.out.trans (hb3.mono HB2.out.size)
  have hbb3:=hbb2.trans (hb3.mono hbb2.size)
  go_wp2_with fail
  refine ⟨rfl,hb3,?_⟩
  repeat ((first | refine stop_p rfl ?_ | refine stop_q rfl ?_);go_big_quiet_step (fail);refine wpQuiet_nil ?_)
  refine stop_n rfl ?_
  go_wp2_with fail
  refine (N2 w3 (HG0.out.below hbb3).glob.h.ev.num).mono ?_
  rintro x w4 ⟨rfl,hb4⟩
  have HB4:Hid (Below w.heap.size w w4):=HB3.out.trans (hb4.mono HB3.out.size)
  have hbb4:=hbb3.trans (hb4.mono hbb3.size)
  go_wp2_with fail
  refine ⟨rfl,hb4,?_⟩
  repeat ((first | refine stop_p rfl ?_ | refine stop_q rfl ?_);go_big_quiet_step (fail);refine wpQuiet_nil ?_)
  refine stop_nil ?_
  have hAW:=HA.out.below HB4.out
  have cc:=hAW.cc
  have hAt:=rediff_any hAW.hs.bk (by have:=HO.out.inv.full;omega) n u1 u2 (fun e he=>(as_allD HO.out.inv _ e (List.mem_filter.1 he).1).2) (fun e he=>(as_allD HO.out.inv _ e (List.mem_filter.1 he).1).2)
  clear hD N1 N2 f0 f1 f2 c0 c1 c2
  go_wp2_with fail
  refine hAt.mono ?_
  rintro x w5 ⟨v1,ks,rfl,hks,hown,hb5⟩
  obtain ⟨ad1,cp1,hv1⟩:=own_lenN hown
  subst hv1
  have HKO:Hid (keysOf (fun z=>dfQ (stUp h.bk n u2) (stUp h.bk n u1) z ≠ 0∨dfV (stUp h.bk n u2) (stUp h.bk n u1) z ≠ 0)=ks):=keysOf_is hks
  have HM:Hid (∀ t x,StkOK 1000 (stUp h.bk n t x)):=fun t x=>stUp_ok h.bk n t (by have:=HO.out.inv.full;omega) x
  have HQ:Hid (∀ x,I64 (dfQ (stUp h.bk n u2) (stUp h.bk n u1) x)):=fun x=>by
   have h1:=st_bd (HM.out u1 x)
   have h2:=st_bd (HM.out u2 x)
   unfold dfQ
   constructor <;> omega
  have HV:Hid (∀ x,I64 (dfV (stUp h.bk n u2) (stUp h.bk n u1) x)):=fun x=>by
   have h1:=st_bd (HM.out u1 x)
   have h2:=st_bd (HM.out u2 x)
   unfold dfV
   constructor <;> omega
  have hkl:ks.length≤1000:=by
   have h1:=df_len hks
   have h2:=evUp_len h.bk n u1
   have h3:=evUp_len h.bk n u2
   have:=HO.out.inv.full
   omega
  have HSZ:Hid (∀ x ∈ ks,x.size≤1000):=fun x hx=>by
   obtain ⟨e,he,rfl⟩:=df_item ((hks.mem x).1 hx)
   have h0:Rt e:=by
    rcases List.mem_append.1 he with he | he
    ·exact ordd_rt _ e he
    ·exact ordd_rt _ e he
   have h1:=h0.1.1.2
   rw [eba_len] at h1
   omega
  have HO5:=hidE hown
  have HB5:Hid (Below w.heap.size w w5):=HB4.out.trans (hb5.mono HB4.out.size)
  have HGN:Hid (GroundD B w5):=(HG0.out.below hbb4).below hb5
  obtain ⟨f,hf⟩:∃ f:ByteArray→List UInt8,f=fun z=>amountT z (dfQ (stUp h.bk n u2) (stUp h.bk n u1) z) (dfV (stUp h.bk n u2) (stUp h.bk n u1) z):=⟨_,rfl⟩
  have HF:=hidE hf
  have HFL:Hid (∀ x ∈ ks,(f x).length≤1100):=fun x hx=>by
   rw [hf]
   exact amount_len _ _ _ (HSZ.out x hx) (HQ.out x) (HV.out x)
  have HFIN:Hid (ba (dChange ++ ks.flatMap f)=ba (changeT h n u1 u2)):=by
   show _=_
   rw [hf,← HKO.out]
   rfl
  clear hAt hks hown hAW cc hf
  go_wp2
  go_loopw [8,36] (fun s i wr=>∃ k:Nat,k≤ks.length∧i = .int .i64 k∧s = .string (ba (dChange ++ (ks.take k).flatMap f))∧Hid (Below w5.heap.size w5 wr)) (fun _ i _=>ks.length - (intOf i).toNat)
  case atStart=>exact ⟨0,Nat.zero_le _,rfl,rfl,Below.refl _ _⟩
  case round=>
   obtain ⟨k,hk,rfl,rfl,HB⟩:=hrel
   by_cases hlt:k < ks.length
   ·rcases own_form HO5.out with ⟨_,e2,_⟩ | ⟨g,cp,e1,hgB,hgl,_⟩
    ·rw [e2] at hlt;exact absurd hlt (Nat.not_lt_zero _)
    ·simp only [Value.slice.injEq] at e1
     obtain ⟨rfl,_,rfl⟩:=e1
     obtain ⟨x,hx⟩:∃ x,x=ks[k]:=⟨_,rfl⟩
     have q0:=(HB.out.cell (p:=⟨g,k * 3 + 0,none⟩) hgl).trans (own_cell (m:=3) (fun _=>rfl) HO5.out k 0 hlt (by omega)).1
     have q1:=(HB.out.cell (p:=⟨g,k * 3 + 1,none⟩) hgl).trans (own_cell (m:=3) (fun _=>rfl) HO5.out k 1 hlt (by omega)).1
     have q2:=(HB.out.cell (p:=⟨g,k * 3 + 2,none⟩) hgl).trans (own_cell (m:=3) (fun _=>rfl) HO5.out k 2 hlt (by omega)).1
     rw [← hx] at q0 q1 q2
     simp only [dfC,List.getElem?_cons_zero,List.getElem?_cons_succ,Nat.add_zero] at q0 q1 q2
     have hxm:x ∈ ks:=by rw [hx];exact List.getElem_mem hlt
     obtain ⟨q,hq⟩:∃ q:Int,q=dfQ (stUp h.bk n u2) (stUp h.bk n u1) x:=⟨_,rfl⟩
     obtain ⟨v,hv⟩:∃ v:Int,v=dfV (stUp h.bk n u2) (stUp h.bk n u1) x:=⟨_,rfl⟩
     have hAm:=fun W hW=>damount_any x q v W hW (HSZ.out x hxm) (by rw [hq];exact HQ.out x) (by rw [hv];exact HV.out x)
     rw [← hq] at q1
     rw [← hv] at q2
     have HS:Hid (ba (dChange ++ (ks.take k).flatMap f) ++ ba (amountT x q v)=ba (dChange ++ (ks.take (k + 1)).flatMap f)):=by
      show _=_
      rw [flat_snoc f hlt,← hx,HF.out,hq,hv]
      apply dba_ext
      simp [ba_data]
     have za:(ba (amountT x q v)).size≤1100:=by
      have:=HFL.out x hxm
      rw [HF.out] at this
      rw [ba_size,hq,hv];exact this
     have zs:(ba (dChange ++ (ks.take k).flatMap f)).size≤10000000:=by
      rw [ba_size,List.length_append]
      have h1:=flatB_len f 1100 (ks.take k) (fun y hy=>HFL.out y (List.mem_of_mem_take hy))
      rw [List.length_take] at h1
      have h2:(dChange:List UInt8).length≤10:=by decide
      have h3:min k ks.length≤1000:=by omega
      omega
     have hAmr:=hAm
     obtain ⟨s0,hs0⟩:∃ s,s=ba (dChange ++ (ks.take k).flatMap f):=⟨_,rfl⟩
     obtain ⟨s1,hs1⟩:∃ s,s=ba (amountT x q v):=⟨_,rfl⟩
     rw [← hs0] at HS zs ⊢
     rw [← hs1] at HS za hAmr
     have HAM:=hidE hAmr
     clear hs0 hs1 hq hv hx hAm hAmr
     have hba:Below w5.heap.size w5 (wr.alloc (.cells #[.string x,.int .i64 q,.int .i64 v] 166)):=HB.out.alloc HB.out.size _
     go_wp2_with fail
     refine (HAM.out _ (HGN.out.below hba).glob.h.ev.num).mono ?_
     rintro y w6 ⟨rfl,hb6⟩
     have HB6:Hid (Below w5.heap.size w5 w6):=hba.trans (hb6.mono hba.size)
     clear hba hb6
     go_wp2
     go_roundw
     case rel=>exact ⟨k + 1,by omega,by go_num,by rw [HS.out],HB6⟩
     case measure=>simp [intOf];omega
   ·have HE:Hid (ks.take k=ks):=by show _=_;rw [show k=ks.length by omega,List.take_length]
    have hnn:¬ (k:Int) < (ks.length:Int):=by omega
    have HBF:Hid (Below w.heap.size w wr):=HB5.out.trans (HB.out.mono HB5.out.size)
    rw [HE.out,HFIN.out]
    clear hlt hk
    go_wp2
    go_ret
    exact HP.out _ HBF.out
end Go.Proofs.YtbleojodidbhiaaGreatDoor
