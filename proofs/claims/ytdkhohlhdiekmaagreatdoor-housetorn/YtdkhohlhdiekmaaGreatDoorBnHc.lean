/- A region that draws its order, some of whose operations make memory beside each other: reads first, then each order by itself. A region that draws its order, whose operations keep to a relation, but for some that come behind all reads: reads first, then each order by itself. The walk of the house's deed: close. -/
import Derived.Test.YtdkhohlhdiekmaaGreatDoorBnB
import Derived.Test.YtdkhohlhdiekmaaGreatDoorBnG
import Derived.Test.YtdkhohlhdiekmaaGreatDoorBnHd
import Derived.Test.YtdkhohlhdiekmaaGreatDoorLedPost
import Derived.Deep.DeepCutAuto
namespace Go.Proofs.YtdkhohlhdiekmaaGreatDoor
open Go.RowKit
section
variable {P : Program} {ops : Array Oper} {md : Region.Mode}
def plainOpF : Op → Bool
  | .lookup .. => true
  | o => plainOpE o
theorem plain_onlyF {ρ : Operand → Value} {o : Oper} {w w' : World} {n : Next} (hp : plainOpF o.op = true) (h : (execOp ρ o).run P w = .ok n w') : ∃ u, n = .value u := by
  cases hop : o.op
  case lookup t m k c =>
    have key : VOnly P (execOp ρ o) := by
      unfold execOp
      rw [hop]
      exact vonly_bind _ _ (fun _ => vonly_pure _)
    exact key w n w' h
  all_goals exact plain_onlyE (by rw [hop] at hp; rw [hop]; exact hp) h
theorem yieldsR_of_quietF {R : World → World → Prop} {C : World → Prop} {w : World} {o : Oper} {a : Act} {K : Act → Prop} (hC : ∀ w', R w w' → C w') (hp : plainOpF o.op = true) (h : wpQuiet P ops C K [o] a) : ∃ v, YieldsR R P ops w o v a ∧ K (a.put o.dst v) := by
  unfold wpQuiet at h
  split at h
  · rename_i hw
    obtain ⟨v, h1, h2⟩ := h
    refine ⟨v, .inl ⟨hw, fun n hn => ?_⟩, h2⟩
    have h3 := h1 n (hC n hn)
    unfold Oper.quietAt at h3
    cases hr : (execOp a.eval o).run P n with
    | ok m w' =>
      obtain ⟨u, rfl⟩ := plain_onlyF hp hr
      rw [hr] at h3
      obtain ⟨e1, e2⟩ := h3
      rw [e1, e2]
    | halt x w' => rw [hr] at h3; exact False.elim h3
  · rename_i hw
    exact ⟨undef, .inr ⟨by simpa using hw, rfl⟩, h⟩
def wpPre (P : Program) (ops : Array Oper) (Q : Act → World → Prop) : List (Bool × Nat) → Act → World → Prop
  | [], a, w => Q a w
  | (false, k) :: rest, a, w => ∃ o, ops[k]? = some o ∧ wpQuiet P ops (fun w' => ∃ n : AnyW, w' = n.v) (fun a' => wpPre P ops Q rest a' w) [o] a
  | (true, k) :: rest, a, w => ∃ o, ops[k]? = some o ∧ wpQuiet P ops (fun w' => ∃ n : Up w, w' = n.v) (fun a' => wpPre P ops Q rest a' w) [o] a
theorem pre_nil {Q : Act → World → Prop} {a : Act} {w : World} (h : Q a w) : wpPre P ops Q [] a w := h
theorem pre_p {l : List Oper} {Q : Act → World → Prop} {k : Nat} {rest : List (Bool × Nat)} {a : Act} {w : World} {o : Oper} (ho : nth l k = some o)
    (h : wpQuiet P l.toArray (fun w' => ∃ n : AnyW, w' = n.v) (fun a' => wpPre P l.toArray Q rest a' w) [o] a) : wpPre P l.toArray Q ((false, k) :: rest) a w := ⟨o, by rw [← ho, nth_is]; simp, h⟩
theorem pre_q {l : List Oper} {Q : Act → World → Prop} {k : Nat} {rest : List (Bool × Nat)} {a : Act} {w : World} {o : Oper} (ho : nth l k = some o)
    (h : wpQuiet P l.toArray (fun w' => ∃ n : Up w, w' = n.v) (fun a' => wpPre P l.toArray Q rest a' w) [o] a) : wpPre P l.toArray Q ((true, k) :: rest) a w := ⟨o, by rw [← ho, nth_is]; simp, h⟩
def preB (md : Region.Mode) (ops : Array Oper) (E : List Nat) : List (Bool × Nat) → Array Bool → Bool
  | [], _ => true
  | (false, k) :: rest, listed => (Region.ready md ops listed).contains k && Region.free md ops listed k && (match ops[k]? with | some o => plainOpF o.op | none => false) && preB md ops E rest (listed.setIfInBounds k true)
  | (true, k) :: rest, listed => (Region.ready md ops listed).contains k && Region.free md ops listed k && (match ops[k]? with | some o => plainOpF o.op | none => false) && descB md ops E listed k (descs md ops k) && preB md ops E rest (listed.setIfInBounds k true)
def listPre (listed : Array Bool) (ks : List (Bool × Nat)) : Array Bool := ks.foldl (fun b k => b.setIfInBounds k.2 true) listed
theorem wpAnyE_pre {E : List Nat} {Q : Act → World → Prop} (hs : Region.noSelect ops = true) (fuel : Nat) : ∀ (ord : List (Bool × Nat)) (listed : Array Bool) (a : Act) (w : World), preB md ops E ord listed = true →
      wpPre P ops (wpAnyE P md ops E Q fuel (listPre listed ord)) ord a w → wpAnyE P md ops E Q (ord.length + fuel) listed a w
  | [], listed, a, w, _, h => by rw [List.length_nil, Nat.zero_add]; exact h
  | (false, k) :: rest, listed, a, w, hB, ⟨o, ho, h⟩ => by
    simp only [preB, Bool.and_eq_true] at hB
    obtain ⟨⟨⟨hr, hf⟩, hp⟩, hB'⟩ := hB
    rw [ho] at hp
    obtain ⟨v, hy, hK⟩ := yieldsR_of_quietF (R := fun _ _ => True) (w := w) (fun w' _ => ⟨⟨w'⟩, rfl⟩) hp h
    have := wpAnyE_pre hs fuel rest (listed.setIfInBounds k true) _ w hB' hK
    rw [List.length_cons, show rest.length + 1 + fuel = rest.length + fuel + 1 by omega]
    exact wpAnyE_first (R := fun _ _ => True) (fun _ => trivial) (fun _ _ _ _ _ => trivial) ho (Region.noSelect_spec hs) (fun _ => True) (fun _ _ _ _ _ => ⟨fun _ _ _ => trivial, trivial⟩) (rest.length + fuel) listed a w (Region.free_spec ho hf) trivial (by simpa using hr) hy this
  | (true, k) :: rest, listed, a, w, hB, ⟨o, ho, h⟩ => by
    simp only [preB, Bool.and_eq_true] at hB
    obtain ⟨⟨⟨⟨hr, hf⟩, hp⟩, hd⟩, hB'⟩ := hB
    rw [ho] at hp
    obtain ⟨hg, h2⟩ := descB_spec hd
    obtain ⟨v, hy, hK⟩ := yieldsR_of_quietF (R := fun w w' => Below w.heap.size w w') (w := w) (fun w' hb => ⟨⟨w', hb⟩, rfl⟩) hp h
    have := wpAnyE_pre hs fuel rest (listed.setIfInBounds k true) _ w hB' hK
    rw [List.length_cons, show rest.length + 1 + fuel = rest.length + fuel + 1 by omega]
    exact wpAnyE_first (R := fun w w' => Below w.heap.size w w') (fun w => Below.refl _ w) (fun a b c h1 h2 => h1.trans (h2.mono h1.size)) ho (Region.noSelect_spec hs) (GoodD E (descs md ops k)) (fun listed j hg hj hji => goodD_step h2 listed j hg hj hji) (rest.length + fuel) listed a w (Region.free_spec ho hf) hg (by simpa using hr) hy this
/-- What makes memory, alone. -/
theorem eOp_make {E : List Nat} {K : Act → World → Prop} {l : List Oper} {k : Nat} {a : Act} {w : World} {o : Oper} (ho : nth l k = some o) (h : wpList P l.toArray (mixQ w K) [o] a w) : eOp P l.toArray E k K a w := by
  have ho' : l.toArray[k]? = some o := by rw [← ho, nth_is]; simp
  unfold eOp
  simp only [ho']
  unfold wpList at h
  split
  · rename_i hw
    simp only [hw, if_true] at h
    rcases h with h | ⟨_, _, _, hf⟩
    · exact wp_of_safe (fun a w hk => ⟨Or.inr hk.1, hk.2⟩) (safe_of_wp (K := K) h)
    · exact absurd hf.1 (by simp)
  · rename_i hw
    simp only [hw] at h
    exact h.2.2
/-- What turns memory, alone. -/
theorem eOp_turn {E : List Nat} {K : Act → World → Prop} {l : List Oper} {k : Nat} {a : Act} {w : World} {o : Oper} (ho : nth l k = some o) (hE : k ∈ E) (h : wpList P l.toArray (turnQ K) [o] a w) : eOp P l.toArray E k K a w := by
  have ho' : l.toArray[k]? = some o := by rw [← ho, nth_is]; simp
  unfold eOp
  simp only [ho']
  unfold wpList at h
  split
  · rename_i hw
    simp only [hw, if_true] at h
    rcases h with h | ⟨_, _, _, hf⟩
    · exact safe_of_turn hE (K := K) h
    · exact absurd hf.1 (by simp)
  · rename_i hw
    simp only [hw] at h
    exact h.2
theorem any_all {E : List Nat} {Q : Act → World → Prop} {fuel : Nat} {listed : Array Bool} {a : Act} {w : World} (ks : List Nat) (hr : (decide (Region.ready md ops listed = ks) && !ks.isEmpty) = true) (h : ∀ i ∈ ks, eOp P ops E i (wpAnyE P md ops E Q fuel (listed.setIfInBounds i true)) a w) : wpAnyE P md ops E Q (fuel + 1) listed a w := by
  simp only [Bool.and_eq_true, decide_eq_true_eq, Bool.not_eq_true'] at hr
  obtain ⟨hr, hn⟩ := hr
  refine ⟨fun h0 => ?_, fun i hi => h i (by rw [← hr]; exact hi)⟩
  rw [hr] at h0
  rw [h0] at hn
  cases hn
theorem any_nil {E : List Nat} {Q : Act → World → Prop} {listed : Array Bool} {a : Act} {w : World} (hr : decide (Region.ready md ops listed = []) = true) (h : Q a w) : wpAnyE P md ops E Q 0 listed a w := ⟨by simpa using hr, h⟩
/-- Reads first, then whatever is left. -/
theorem wp_region_pre {id : Nat} {Q : Exit → Act → World → Prop} {a : Act} {w : World} {l : List Oper} (ord : List (Bool × Nat)) (E : List Nat) (fuel : Nat) (hm : P.follows .mixedOrders = true)
    (hB : (Region.noSelect l.toArray && decide (ord.length + fuel = l.length) && preB .any l.toArray E ord (Array.replicate l.length false)) = true)
    (h : wpPre P l.toArray (wpAnyE P .any l.toArray E (fun a' w' => Q .normal a' w') fuel (listPre (Array.replicate l.length false) ord)) ord a w.drew) : (Code.region id l.toArray true).wp P Q a w := by
  simp only [Bool.and_eq_true, decide_eq_true_eq] at hB
  obtain ⟨⟨hs, hl⟩, hB⟩ := hB
  refine wp_region_any hm ?_
  have := wpAny_of_E (Q' := Q) (fun a w h => h) _ _ _ _ (wpAnyE_pre (md := .any) hs fuel ord _ a w.drew hB h)
  rw [hl] at this
  simpa using this
end
end Go.Proofs.YtdkhohlhdiekmaaGreatDoor
namespace Go.Proofs.YtdkhohlhdiekmaaGreatDoor
open Go.RowKit
section
variable {P : Program} {ops : Array Oper} {md : Region.Mode} {T : World → World → Prop}
/-- What an operation may do: those of E whatever, the others make memory alone. -/
def MayT (T : World → World → Prop) (E : List Nat) (i : Nat) (w w' : World) : Prop := i ∈ E ∨ T w w'
def eOpT (T : World → World → Prop) (P : Program) (ops : Array Oper) (E : List Nat) (i : Nat) (K : Act → World → Prop) (a : Act) (w : World) : Prop :=
  match ops[i]? with
  | none => K a w
  | some o => if Region.wanted o (yielded ops a.tmps) then o.wp P a w (fun a' w' => MayT T E i w w' ∧ K a' w') QF else K (a.put o.dst undef) w
def wpAnyG (T : World → World → Prop) (P : Program) (md : Region.Mode) (ops : Array Oper) (E : List Nat) (Q : Act → World → Prop) : Nat → Array Bool → Act → World → Prop
  | 0, listed, a, w => Region.ready md ops listed = [] ∧ Q a w
  | fuel + 1, listed, a, w => (Region.ready md ops listed = [] → Q a w) ∧ ∀ i ∈ Region.ready md ops listed, eOpT T P ops E i (wpAnyG T P md ops E Q fuel (listed.setIfInBounds i true)) a w
theorem wpOp_of_eOpG {E : List Nat} {i : Nat} {a : Act} {w : World} {K K' : Act → World → Prop} {Q' : Exit → Act → World → Prop} (h : ∀ a w, K a w → K' a w) (hh : eOpT T P ops E i K a w) : wpOp P ops Q' i K' a w := by
  unfold eOpT at hh
  unfold wpOp
  split
  · rename_i ho; simp only [ho] at hh; exact h _ _ hh
  · rename_i o ho
    simp only [ho] at hh
    split
    · rename_i hw; simp only [hw, if_true] at hh; exact .inl (wp_of_safe (fun a w hk => h _ _ hk.2) hh)
    · rename_i hw; simp only [hw] at hh; exact h _ _ hh
theorem wpAny_of_EG {E : List Nat} {Q : Act → World → Prop} {Q' : Exit → Act → World → Prop} (hQ : ∀ a w, Q a w → Q' .normal a w) : ∀ (fuel : Nat) (listed : Array Bool) (a : Act) (w : World),
    wpAnyG T P md ops E Q fuel listed a w → wpAny P md ops Q' fuel listed a w
  | 0, _, _, _, h => ⟨h.1, hQ _ _ h.2⟩
  | fuel + 1, _, _, _, h => ⟨fun h0 => hQ _ _ (h.1 h0), fun i hi => wpOp_of_eOpG (fun a' w' h' => wpAny_of_EG hQ fuel _ a' w' h') (h.2 i hi)⟩
theorem YieldsR.eOpG {R : World → World → Prop} {E : List Nat} (hT0 : ∀ w, T w w) (hR : ∀ w, R w w) {i : Nat} {o : Oper} {v : Value} {a : Act} {w : World} (hi : ops[i]? = some o) (hy : YieldsR R P ops w o v a) {K : Act → World → Prop} (h : K (a.put o.dst v) w) : eOpT T P ops E i K a w := by
  unfold Go.Proofs.YtdkhohlhdiekmaaGreatDoor.eOpT
  simp only [hi]
  rcases hy with ⟨hw, hv⟩ | ⟨hw, rfl⟩
  · simp only [hw, if_true]
    unfold Oper.wp
    rw [hv w (hR w)]
    exact ⟨Or.inr (hT0 _), h⟩
  · simp only [hw, Bool.false_eq_true, if_false]; exact h
theorem eOp_putG {R : World → World → Prop} (hR : ∀ w, R w w) (hT : ∀ a b c, R a b → R b c → R a c) {E : List Nat} {j : Nat} {oi oj : Oper} {v : Value} (hj : ops[j]? = some oj) (hap : oi.apart ops oj = true)
    (hsi : ∀ cs b, oi.op ≠ .select cs b) (hsj : ∀ cs b, oj.op ≠ .select cs b) (hm : ∀ w w', MayT T E j w w' → R w w') {K : Act → World → Prop} {a : Act} {w : World}
    (hy : YieldsR R P ops w oi v a) (h : eOpT T P ops E j K (a.put oi.dst v) w) :
    eOpT T P ops E j (fun a' w' => YieldsR R P ops w' oi v a' ∧ K (a'.put oi.dst v) w') a w := by
  obtain ⟨h1, h2, h3⟩ := Oper.apart_spec hap
  unfold eOpT at *
  simp only [hj] at *
  rw [wanted_put oj a oi.dst v h1] at h
  split
  · rename_i hw
    simp only [hw, if_true] at h
    exact wp_put (K := fun a' w' => MayT T E j w w' ∧ K a' w') (execOp_put oj hsj a oi.dst v h1) h2 (fun b w' u hb hk => ⟨hk.1, hy.keep hT (hm _ _ hk.1) hb hsi h3, hk.2⟩) h
  · rename_i hw
    simp only [hw] at h
    exact ⟨hy.keep hT (hR _) rfl hsi h3, by rw [← Act.put_comm a v undef h2]; exact h⟩
theorem eOp_monoG {E : List Nat} {i : Nat} {a : Act} {w : World} {K K' : Act → World → Prop} (h : ∀ a w, K a w → K' a w) (hh : eOpT T P ops E i K a w) : eOpT T P ops E i K' a w := by
  unfold eOpT at *
  split
  · rename_i ho; simp only [ho] at hh; exact h _ _ hh
  · rename_i o ho
    simp only [ho] at hh
    split
    · rename_i hw; simp only [hw, if_true] at hh; exact wp_of_safe (fun a w hk => ⟨hk.1, h _ _ hk.2⟩) hh
    · rename_i hw; simp only [hw] at hh; exact h _ _ hh
/-- What may come up now, and stays so whatever comes up ahead of it, may be taken first. -/
theorem wpAnyE_firstG {R : World → World → Prop} (hT0 : ∀ w, T w w) (hR : ∀ w, R w w) (hT : ∀ a b c, R a b → R b c → R a c) {E : List Nat} {Q : Act → World → Prop} {i : Nat} {oi : Oper} {v : Value} (hi : ops[i]? = some oi)
    (hsel : ∀ (j : Nat) (o : Oper) cs b, ops[j]? = some o → o.op ≠ .select cs b) (G : Array Bool → Prop)
    (hG : ∀ listed j, G listed → j ∈ Region.ready md ops listed → j ≠ i → (∀ w w', MayT T E j w w' → R w w') ∧ G (listed.setIfInBounds j true)) :
    ∀ (fuel : Nat) (listed : Array Bool) (a : Act) (w : World),
      (∀ j oj, ops[j]? = some oj → j ≠ i → listed.getD j true = false → (∀ e ∈ oj.after, Region.binds md e = true → e.on ≠ i) → oi.apart ops oj = true) → G listed →
      i ∈ Region.ready md ops listed → YieldsR R P ops w oi v a →
      wpAnyG T P md ops E Q fuel (listed.setIfInBounds i true) (a.put oi.dst v) w → wpAnyG T P md ops E Q (fuel + 1) listed a w := by
  intro fuel
  induction fuel with
  | zero =>
    intro listed a w _ _ hr hy H
    refine ⟨fun h => (by rw [h] at hr; cases hr), fun j hj => ?_⟩
    by_cases hji : j = i
    · subst hji; exact hy.eOpG hT0 hR hi H
    · have := ready_mono hj hji
      rw [H.1] at this
      cases this
  | succ fuel ih =>
    intro listed a w hfree hg hr hy H
    refine ⟨fun h => (by rw [h] at hr; cases hr), fun j hj => ?_⟩
    by_cases hji : j = i
    · subst hji; exact hy.eOpG hT0 hR hi H
    · have h1 := H.2 j (ready_mono hj hji)
      obtain ⟨hjun, oj, hoj, hall⟩ := mem_ready.1 hj
      have hnot : ∀ e ∈ oj.after, Region.binds md e = true → e.on ≠ i := fun e he hb heq => by
        have h1 := hall e he hb
        have h0 := (mem_ready.1 hr).1
        rw [heq] at h1
        rcases Nat.lt_or_ge i listed.size with h' | h'
        · simp [h'] at h0 h1; rw [h0] at h1; cases h1
        · simp [Array.getElem?_eq_none h'] at h1
      obtain ⟨hmay, hg'⟩ := hG listed j hg hj hji
      have h2 := eOp_putG hR hT hoj (hfree j oj hoj hji hjun hnot) (fun cs b => hsel i oi cs b hi) (fun cs b => hsel j oj cs b hoj) hmay hy h1
      have hfree' : ∀ k ok, ops[k]? = some ok → k ≠ i → (listed.setIfInBounds j true).getD k true = false →
          (∀ e ∈ ok.after, Region.binds md e = true → e.on ≠ i) → oi.apart ops ok = true := fun k ok hk hki hun hno => by
        refine hfree k ok hk hki ?_ hno
        by_cases hjk : j = k
        · subst hjk; exact hjun
        · rw [getD_set_ne true hjk] at hun; exact hun
      refine eOp_monoG (fun a' w' h3 => ih (listed.setIfInBounds j true) a' w' hfree' hg' (ready_mono hr (Ne.symm hji)) h3.1 ?_) h2
      rw [Array.setIfInBounds_comm _ _ hji]
      exact h3.2
theorem goodD_stepG {E ds : List Nat} {i : Nat} (h2 : ∀ k ∈ ds, k = i ∨ ∃ o, ops[k]? = some o ∧ ∃ e ∈ o.after, Region.binds md e = true ∧ e.on ∈ ds) (listed : Array Bool) (j : Nat) (hg : GoodD E ds listed) (hj : j ∈ Region.ready md ops listed) (hji : j ≠ i) :
    (∀ w w', MayT T E j w w' → T w w') ∧ GoodD E ds (listed.setIfInBounds j true) := by
  obtain ⟨hjun, oj, hoj, hall⟩ := mem_ready.1 hj
  have hnd : j ∉ ds := fun hd => by
    rcases h2 j hd with h | ⟨o, ho, e, he, hb, hon⟩
    · exact hji h
    · rw [hoj] at ho
      obtain rfl := Option.some.inj ho
      have h1 := hall e he hb
      have h0 := hg.1 _ hon
      rcases Nat.lt_or_ge e.on listed.size with h' | h'
      · simp [h'] at h0 h1; rw [h0] at h1; cases h1
      · simp [Array.getElem?_eq_none h'] at h1
  refine ⟨fun w w' hm => ?_, fun k hk => ?_, fun k hk => ?_⟩
  · rcases hm with hm | hm
    · rcases hg.2 j hm with h | h
      · exact absurd h hnd
      · rw [hjun] at h; cases h
    · exact hm
  · have hjk : j ≠ k := fun e => hnd (e ▸ hk)
    rw [getD_set_ne true hjk]; exact hg.1 k hk
  · rcases hg.2 k hk with h | h
    · exact Or.inl h
    · refine Or.inr ?_
      by_cases hjk : j = k
      · subst hjk; rw [hjun] at h; cases h
      · rw [getD_set_ne true hjk]; exact h
theorem safe_of_turnG {E : List Nat} {i : Nat} (hE : i ∈ E) {o : Oper} {a : Act} {w : World} {K : Act → World → Prop} (hh : o.wp P a w (turnQ K .normal) (turnQ K)) : o.wp P a w (fun a' w' => MayT T E i w w' ∧ K a' w') QF := by
  unfold Oper.wp at *
  generalize (execOp a.eval o).run P w = r at *
  cases r with
  | ok n w' =>
    cases n <;> simp only [Oper.upon] at hh ⊢ <;>
      first
        | exact ⟨Or.inl hE, hh.2⟩
        | exact Calls.mono hh (fun e w'' he => by
            cases e
            · exact ⟨Or.inl hE, he.2⟩
            · exact absurd he.1 (by simp)
            · obtain ⟨_, _, hf⟩ := he; exact absurd hf.1 (by simp))
        | exact Rows.mono hh (fun _ _ he => ⟨Or.inl hE, he.2⟩)
  | halt x w' =>
    cases x <;> simp only [Oper.upon] at hh ⊢
    exact absurd hh.1 (by simp)
def wpPreG (T : World → World → Prop) (P : Program) (ops : Array Oper) (Q : Act → World → Prop) : List (Bool × Nat) → Act → World → Prop
  | [], a, w => Q a w
  | (false, k) :: rest, a, w => ∃ o, ops[k]? = some o ∧ wpQuiet P ops (fun w' => ∃ n : AnyW, w' = n.v) (fun a' => wpPreG T P ops Q rest a' w) [o] a
  | (true, k) :: rest, a, w => ∃ o, ops[k]? = some o ∧ wpQuiet P ops (fun w' => ∃ n : UpK T w, w' = n.v) (fun a' => wpPreG T P ops Q rest a' w) [o] a
theorem preG_nil {Q : Act → World → Prop} {a : Act} {w : World} (h : Q a w) : wpPreG T P ops Q [] a w := h
theorem preG_p {l : List Oper} {Q : Act → World → Prop} {k : Nat} {rest : List (Bool × Nat)} {a : Act} {w : World} {o : Oper} (ho : nth l k = some o)
    (h : wpQuiet P l.toArray (fun w' => ∃ n : AnyW, w' = n.v) (fun a' => wpPreG T P l.toArray Q rest a' w) [o] a) : wpPreG T P l.toArray Q ((false, k) :: rest) a w := ⟨o, by rw [← ho, nth_is]; simp, h⟩
theorem preG_q {l : List Oper} {Q : Act → World → Prop} {k : Nat} {rest : List (Bool × Nat)} {a : Act} {w : World} {o : Oper} (ho : nth l k = some o)
    (h : wpQuiet P l.toArray (fun w' => ∃ n : UpK T w, w' = n.v) (fun a' => wpPreG T P l.toArray Q rest a' w) [o] a) : wpPreG T P l.toArray Q ((true, k) :: rest) a w := ⟨o, by rw [← ho, nth_is]; simp, h⟩
theorem wpAnyG_pre {E : List Nat} {Q : Act → World → Prop} (hT0 : ∀ w, T w w) (hTt : ∀ a b c, T a b → T b c → T a c) (hs : Region.noSelect ops = true) (fuel : Nat) : ∀ (ord : List (Bool × Nat)) (listed : Array Bool) (a : Act) (w : World), preB md ops E ord listed = true →
      wpPreG T P ops (wpAnyG T P md ops E Q fuel (listPre listed ord)) ord a w → wpAnyG T P md ops E Q (ord.length + fuel) listed a w
  | [], listed, a, w, _, h => by rw [List.length_nil, Nat.zero_add]; exact h
  | (false, k) :: rest, listed, a, w, hB, ⟨o, ho, h⟩ => by
    simp only [preB, Bool.and_eq_true] at hB
    obtain ⟨⟨⟨hr, hf⟩, hp⟩, hB'⟩ := hB
    rw [ho] at hp
    obtain ⟨v, hy, hK⟩ := yieldsR_of_quietF (R := fun _ _ => True) (w := w) (fun w' _ => ⟨⟨w'⟩, rfl⟩) hp h
    have := wpAnyG_pre hT0 hTt hs fuel rest (listed.setIfInBounds k true) _ w hB' hK
    rw [List.length_cons, show rest.length + 1 + fuel = rest.length + fuel + 1 by omega]
    exact wpAnyE_firstG (R := fun _ _ => True) hT0 (fun _ => trivial) (fun _ _ _ _ _ => trivial) ho (Region.noSelect_spec hs) (fun _ => True) (fun _ _ _ _ _ => ⟨fun _ _ _ => trivial, trivial⟩) (rest.length + fuel) listed a w (Region.free_spec ho hf) trivial (by simpa using hr) hy this
  | (true, k) :: rest, listed, a, w, hB, ⟨o, ho, h⟩ => by
    simp only [preB, Bool.and_eq_true] at hB
    obtain ⟨⟨⟨⟨hr, hf⟩, hp⟩, hd⟩, hB'⟩ := hB
    rw [ho] at hp
    obtain ⟨hg, h2⟩ := descB_spec hd
    obtain ⟨v, hy, hK⟩ := yieldsR_of_quietF (R := T) (w := w) (fun w' hb => ⟨⟨w', hb⟩, rfl⟩) hp h
    have := wpAnyG_pre hT0 hTt hs fuel rest (listed.setIfInBounds k true) _ w hB' hK
    rw [List.length_cons, show rest.length + 1 + fuel = rest.length + fuel + 1 by omega]
    exact wpAnyE_firstG (R := T) hT0 hT0 hTt ho (Region.noSelect_spec hs) (GoodD E (descs md ops k)) (fun listed j hg hj hji => goodD_stepG h2 listed j hg hj hji) (rest.length + fuel) listed a w (Region.free_spec ho hf) hg (by simpa using hr) hy this
/-- What keeps to the relation, alone. -/
theorem eOpG_keep {E : List Nat} {K : Act → World → Prop} {l : List Oper} {k : Nat} {a : Act} {w : World} {o : Oper} (ho : nth l k = some o) (h : wpList P l.toArray (keepQ T w K) [o] a w) : eOpT T P l.toArray E k K a w := by
  have ho' : l.toArray[k]? = some o := by rw [← ho, nth_is]; simp
  unfold eOpT
  simp only [ho']
  unfold wpList at h
  split
  · rename_i hw
    simp only [hw, if_true] at h
    rcases h with h | ⟨_, _, _, hf⟩
    · exact wp_of_safe (fun a w hk => ⟨Or.inr hk.1, hk.2⟩) (safe_of_keep (K := K) h)
    · exact absurd hf.1 (by simp)
  · rename_i hw
    simp only [hw] at h
    exact h.2.2
/-- What turns memory, alone. -/
theorem eOpG_turn {E : List Nat} {K : Act → World → Prop} {l : List Oper} {k : Nat} {a : Act} {w : World} {o : Oper} (ho : nth l k = some o) (hE : k ∈ E) (h : wpList P l.toArray (turnQ K) [o] a w) : eOpT T P l.toArray E k K a w := by
  have ho' : l.toArray[k]? = some o := by rw [← ho, nth_is]; simp
  unfold eOpT
  simp only [ho']
  unfold wpList at h
  split
  · rename_i hw
    simp only [hw, if_true] at h
    rcases h with h | ⟨_, _, _, hf⟩
    · exact safe_of_turnG hE (K := K) h
    · exact absurd hf.1 (by simp)
  · rename_i hw
    simp only [hw] at h
    exact h.2
theorem anyG_all {E : List Nat} {Q : Act → World → Prop} {fuel : Nat} {listed : Array Bool} {a : Act} {w : World} (ks : List Nat) (hr : (decide (Region.ready md ops listed = ks) && !ks.isEmpty) = true) (h : ∀ i ∈ ks, eOpT T P ops E i (wpAnyG T P md ops E Q fuel (listed.setIfInBounds i true)) a w) : wpAnyG T P md ops E Q (fuel + 1) listed a w := by
  simp only [Bool.and_eq_true, decide_eq_true_eq, Bool.not_eq_true'] at hr
  obtain ⟨hr, hn⟩ := hr
  refine ⟨fun h0 => ?_, fun i hi => h i (by rw [← hr]; exact hi)⟩
  rw [hr] at h0
  rw [h0] at hn
  cases hn
theorem anyG_nil {E : List Nat} {Q : Act → World → Prop} {listed : Array Bool} {a : Act} {w : World} (hr : decide (Region.ready md ops listed = []) = true) (h : Q a w) : wpAnyG T P md ops E Q 0 listed a w := ⟨by simpa using hr, h⟩
/-- Reads first, then whatever is left. -/
theorem wp_region_preG (T : World → World → Prop) {id : Nat} {Q : Exit → Act → World → Prop} {a : Act} {w : World} {l : List Oper} (ord : List (Bool × Nat)) (E : List Nat) (fuel : Nat) (hT0 : ∀ w, T w w) (hTt : ∀ a b c, T a b → T b c → T a c) (hm : P.follows .mixedOrders = true)
    (hB : (Region.noSelect l.toArray && decide (ord.length + fuel = l.length) && preB .any l.toArray E ord (Array.replicate l.length false)) = true)
    (h : wpPreG T P l.toArray (wpAnyG T P .any l.toArray E (fun a' w' => Q .normal a' w') fuel (listPre (Array.replicate l.length false) ord)) ord a w.drew) : (Code.region id l.toArray true).wp P Q a w := by
  simp only [Bool.and_eq_true, decide_eq_true_eq] at hB
  obtain ⟨⟨hs, hl⟩, hB⟩ := hB
  refine wp_region_any hm ?_
  have := wpAny_of_EG (Q' := Q) (fun a w h => h) _ _ _ _ (wpAnyG_pre (md := .any) hT0 hTt hs fuel ord _ a w.drew hB h)
  rw [hl] at this
  simpa using this
end
end Go.Proofs.YtdkhohlhdiekmaaGreatDoor
namespace Go.Proofs.YtdkhohlhdiekmaaGreatDoor
open Go.RowKit
def tClosedB : ByteArray := ⟨#[99, 108, 111, 115, 101, 100, 32]⟩
theorem close_is {b : Bk} {cs cs' : List Cl} {rest : List UInt8} {n c : Int} {F : Fig} (hd : dparsed (rest ++ [45, 48, 49]) = some n) (h : DoesC b cs (dK n : Int) c F cs') :
    (closeD b cs rest = ddE b cs c ∧ (c = 10 ∨ c = 12) ∧ cs' = cs) ∨ (c = 0 ∧ closeD b cs rest = ⟨tClosed ++ Lib.itoa (postL F).length, 0, b, cs'⟩) := by
  have hn := dparsed_some hd
  have hk := dK_le hn.2.1 hn.2.2.1
  unfold closeD
  rw [hd]
  simp only
  rcases h with ⟨h1, _⟩ | ⟨_, h2, rfl, rfl, rfl⟩ | ⟨_, h2, h3, rfl, rfl, rfl⟩ | ⟨_, h2, h3, rfl, rfl, rfl⟩
  · omega
  · left; rw [if_pos h2]; exact ⟨rfl, Or.inl rfl, rfl⟩
  · left; rw [if_neg (by rw [h2]; decide), if_pos h3]; exact ⟨rfl, Or.inr rfl, rfl⟩
  · right; rw [if_neg (by rw [h2]; decide), if_neg (by omega)]; exact ⟨rfl, rfl⟩
/-- What stands behind the close itself: its error, and its figures in a block of their own. -/
def CloP (w : World) (B ph : Nat) (sv cv : Value) (h : Hs) (n : Int) (s7 s8 : Value) (wx : World) : Prop :=
  ∃ fb F c cs' cv', s7 = errV c ∧ s8 = .pointer (some ⟨fb, 0, none⟩) ∧ FigAt wx fb F ∧ DoesC h.bk h.cs (dK n : Int) c F cs' ∧ HsAt wx B ph sv cv' ⟨h.bk, cs', h.ls⟩ ∧ HTurn w wx ph sv cv sv cv'
theorem clo_put {w wx : World} {B ph fb : Nat} {sv cv cv' : Value} {h : Hs} {n c : Int} {F F0 : Fig} {cs' : List Cl} (hf : FigAt wx fb F0) (hn : ¬ Mine ph sv cv' fb) (hw : w.heap.size ≤ fb) (hd : DoesC h.bk h.cs (dK n : Int) c F cs') (a : HsAt wx B ph sv cv' ⟨h.bk, cs', h.ls⟩) (t : HTurn w wx ph sv cv sv cv') :
    CloP w B ph sv cv h n (errV c) (.pointer (some ⟨fb, 0, none⟩)) (set5 wx fb F) :=
  ⟨fb, F, c, cs', cv', rfl, rfl, hf.put F, hd, a.same fun k hk => set5_other _ _ _ (fun e => hn (e ▸ hk)),
    ⟨(set5_oth _ _ _).1.trans t.os, (set5_oth _ _ _).2.1.trans t.tape, (set5_oth _ _ _).2.2.trans t.output, by rw [set5_size]; exact t.size, fun k hk hm => (set5_other _ _ _ (by omega)).trans (t.block k hk hm), t.fresh⟩⟩
set_option maxRecDepth 20000 in
set_option maxHeartbeats 8000000 in
theorem close_deed {w : World} {B ph : Nat} {sv cv : Value} {h : Hs} (a : HsAt w B ph sv cv h) (ho : HsOk h) (_hn : h.ls.length ≤ 100000) (hg : Ground B w) (s : ByteArray) (hs : s.size ≤ 1000) :
    Calls Tryz.prog 64 #[.pointer (some ⟨ph, 0, none⟩), .string s] w (DeedP w B ph sv cv h (closeD h.bk h.cs s.data.toList)) := by
  have hbn := ho.n
  rcases he : dparsed (s.data.toList ++ [45, 48, 49]) with _ | n
  · have HD : closeD h.bk h.cs s.data.toList = ddE h.bk h.cs 3 := by unfold closeD; rw [he]
    rw [HD]
    have hP := month_bad s w hg.glob.ev.len hs he
    have HF : Hid (∀ w', Below w.heap.size w w' → DeedP w B ph sv cv h (ddE h.bk h.cs 3) (.returned (.tuple #[.string ⟨#[]⟩, errV 3])) w') := fun w' hb => deed_none a hb 3
    rw [errV_ne (by decide)] at hP HF
    clear a ho hg he HD hbn
    go_enter Tryz.func64, Tryz.ntmps64
    go_wp2_with fail
    refine hP.mono ?_
    rintro x w1 ⟨rfl, hb1⟩
    have hF := HF.out _ hb1
    clear hP HF
    go_wp2
    go_ret2
    exact hF
  · have hP := month_ok s n w hg.glob.ev.len hs he
    have HCL := fun (W : World) (aW : HsAt W B ph sv cv h) (gW : Ground B W) => hidN (close_any aW.pr aW.bk ho.inv gW.glob.ev.len (by have := ho.cs; omega) (dK n : Int))
    have HE := hidN he
    have HA := hidN a
    have HO := hidN ho
    have HG := hidN hg
    clear a ho hg he hbn
    go_enter Tryz.func64, Tryz.ntmps64
    go_wp2_with fail
    refine hP.mono ?_
    rintro x w1 ⟨rfl, hb1⟩
    clear hP
    go_upto_region 4 with fail
    go_cut [7, 8] (fun s7 s8 wx => CloP w B ph sv cv h n s7 s8 wx)
    case first =>
      go_wp2_with fail
      refine wp_region_preG (fun _ _ => True) [(false, 0), (false, 1), (false, 2), (false, 3), (false, 4), (false, 5), (false, 6)] [] 7 (fun _ => trivial) (fun _ _ _ _ _ => trivial) (by kernel_rfl) (by kernel_rfl) ?_
      have hA := anyW_ne
      obtain ⟨W2, hW2⟩ : ∃ W, W = w1.drew := ⟨_, rfl⟩
      rw [← hW2]
      have hb2 : Below w.heap.size w W2 := by rw [hW2]; exact hb1.trans ((below_drew _).mono hb1.size)
      clear hW2
      repeat (refine preG_p rfl ?_; go_big_quiet_step (fail); refine wpQuiet_nil ?_)
      refine preG_nil ?_
      refine anyG_all [7, 11] (by kernel_rfl) ?_
      intro i hi2
      have hi3 : i = 7 ∨ i = 11 := by simpa using hi2
      clear hi2
      rcases hi3 with rfl | rfl
      · have hC := (HCL W2 (HA.out.below hb2) (HG.out.below hb2)).out
        refine eOpG_keep rfl ?_
        go_wp2_with fail
        refine hC.mono ?_
        rintro x w3 ⟨F, c, cs', cv', rfl, hd, P3, T3, F3⟩
        obtain ⟨hA3, hT3⟩ := (HA.out.below hb2).closes P3 T3 F3
        have hT3' : HTurn w w3 ph sv cv sv cv' := (HTurn.of_below hb2).trans hT3
        have HD := hidN hd
        have HA3 := hidN hA3
        have HT3 := hidN hT3'
        clear hC hd P3 T3 F3 hA3 hT3 hT3' HCL
        go_wp2_with fail
        refine ⟨rfl, trivial, ?_⟩
        refine wpAnyG_pre (fun _ => trivial) (fun _ _ _ _ _ => trivial) (by kernel_rfl) 3 [(false, 8), (false, 9), (false, 10)] _ _ _ (by kernel_rfl) ?_
        obtain ⟨F1, F2, F3, F4, F5⟩ := F
        unfold figV
        simp only
        repeat (refine preG_p rfl ?_; go_big_quiet_step (fail); refine wpQuiet_nil ?_)
        refine preG_nil ?_
        refine anyG_all [11] (by kernel_rfl) ?_
        intro i hi2
        obtain rfl : i = 11 := by simpa using hi2
        clear hi2
        refine eOpG_keep rfl ?_
        go_wp2_with fail
        refine ⟨rfl, trivial, ?_⟩
        refine anyG_all [12] (by kernel_rfl) ?_
        intro i hi2
        obtain rfl : i = 12 := by simpa using hi2
        clear hi2
        obtain ⟨W4, hW4⟩ : ∃ W, W = w3.alloc (.cells #[.int .i64 0, .int .i64 0, .int .i64 0, .int .i64 0, .int .i64 0] 38) := ⟨_, rfl⟩
        rw [← hW4]
        have hb4 : Below w3.heap.size w3 W4 := by rw [hW4]; exact (Below.refl _ _).alloc (Nat.le_refl _) _
        have hF4 : FigAt W4 w3.heap.size fig0 := by rw [hW4]; exact fig_new w3
        have HP : Hid (CloP w B ph sv cv h n (errV c) (.pointer (some ⟨w3.heap.size, 0, none⟩)) (set5 W4 w3.heap.size ⟨F1, F2, F3, F4, F5⟩)) :=
          clo_put hF4 (fun hm => by have := (HA3.out.mine hm).2; omega) HT3.out.size HD.out (HA3.out.below hb4) (HT3.out.trans (HTurn.of_below hb4))
        obtain ⟨d0, d1, d2, d3, d4, e0, e1, e2, e3, e4⟩ := hF4
        simp only [fig0] at d0 d1 d2 d3 d4
        clear hW4 hb4 HD HA3 HT3
        refine eOpG_keep rfl ?_
        go_wp2_with fail
        refine ⟨rfl, trivial, ?_⟩
        refine wpAnyG_pre (fun _ => trivial) (fun _ _ _ _ _ => trivial) (by kernel_rfl) 0 [(false, 13)] _ _ _ (by kernel_rfl) ?_
        repeat (refine preG_p rfl ?_; go_big_quiet_step (fail); refine wpQuiet_nil ?_)
        refine preG_nil ?_
        refine anyG_nil (by kernel_rfl) ?_
        go_wp2
        go_meet
        case rel => exact HP.out
      · refine eOpG_keep rfl ?_
        go_wp2_with fail
        refine ⟨rfl, trivial, ?_⟩
        obtain ⟨W4, hW4⟩ : ∃ W, W = W2.alloc (.cells #[.int .i64 0, .int .i64 0, .int .i64 0, .int .i64 0, .int .i64 0] 38) := ⟨_, rfl⟩
        rw [← hW4]
        have hb4' : Below W2.heap.size W2 W4 := by rw [hW4]; exact (Below.refl _ _).alloc (Nat.le_refl _) _
        have hb4 : Below w.heap.size w W4 := hb2.trans (hb4'.mono hb2.size)
        have hF4 : FigAt W4 W2.heap.size fig0 := by rw [hW4]; exact fig_new W2
        have hC := (HCL W4 (HA.out.below hb4) (HG.out.below hb4)).out
        have hs2 := hb2.size
        obtain ⟨fb, hfb⟩ : ∃ n, n = W2.heap.size := ⟨_, rfl⟩
        rw [← hfb] at hs2 hF4 ⊢
        have HNM : Hid (∀ k, Mine ph sv cv k → k ≠ fb) := fun k hk e => by
          have := (HA.out.mine hk).2
          omega
        clear hW4 hfb hb4'
        refine anyG_all [7] (by kernel_rfl) ?_
        intro i hi2
        obtain rfl : i = 7 := by simpa using hi2
        clear hi2
        refine eOpG_keep rfl ?_
        go_wp2_with fail
        refine hC.mono ?_
        rintro x w3 ⟨F, c, cs', cv', rfl, hd, P3, T3, F3⟩
        obtain ⟨hA3, hT3⟩ := (HA.out.below hb4).closes P3 T3 F3
        have hT3' : HTurn w w3 ph sv cv sv cv' := (HTurn.of_below hb4).trans hT3
        have hF3 : FigAt w3 fb fig0 := hF4.same (hT3.block fb hF4.lt (fun hm => HNM.out fb hm rfl))
        have HP : Hid (∀ F', DoesC h.bk h.cs (dK n : Int) c F' cs' → CloP w B ph sv cv h n (errV c) (.pointer (some ⟨fb, 0, none⟩)) (set5 w3 fb F')) := fun F' hd' =>
          clo_put hF3 (fun hm => by
            rcases hT3.fresh fb hm with x | x
            · exact HNM.out fb x rfl
            · have := hF4.lt; omega) hs2 hd' hA3 hT3'
        obtain ⟨F1, F2, F3', F4, F5⟩ := F
        have HP2 := hidN (HP.out _ hd)
        obtain ⟨d0, d1, d2, d3, d4, e0, e1, e2, e3, e4⟩ := hF3
        simp only [fig0] at d0 d1 d2 d3 d4
        unfold figV
        simp only
        clear hC hd P3 T3 F3 hA3 hT3 hT3' HCL hF4 HP HNM hb4
        go_wp2_with fail
        refine ⟨rfl, trivial, ?_⟩
        refine wpAnyG_pre (fun _ => trivial) (fun _ _ _ _ _ => trivial) (by kernel_rfl) 2 [(false, 8), (false, 9), (false, 10)] _ _ _ (by kernel_rfl) ?_
        repeat (refine preG_p rfl ?_; go_big_quiet_step (fail); refine wpQuiet_nil ?_)
        refine preG_nil ?_
        refine anyG_all [12] (by kernel_rfl) ?_
        intro i hi2
        obtain rfl : i = 12 := by simpa using hi2
        clear hi2
        refine eOpG_keep rfl ?_
        go_wp2_with fail
        refine ⟨rfl, trivial, ?_⟩
        refine wpAnyG_pre (fun _ => trivial) (fun _ _ _ _ _ => trivial) (by kernel_rfl) 0 [(false, 13)] _ _ _ (by kernel_rfl) ?_
        repeat (refine preG_p rfl ?_; go_big_quiet_step (fail); refine wpQuiet_nil ?_)
        refine preG_nil ?_
        refine anyG_nil (by kernel_rfl) ?_
        go_wp2
        go_meet
        case rel => exact HP2.out
    case rest =>
      obtain ⟨fb, F, c, cs', cv', rfl, rfl, hF, hd, hA, hT⟩ := hcut
      rcases close_is HE.out hd with ⟨e1, hc, rfl⟩ | ⟨rfl, e1⟩
      · have HF : Hid (DeedP w B ph sv cv h (closeD h.bk h.cs s.data.toList) (.returned (.tuple #[.string ⟨#[]⟩, errV c])) wc) := by
          show DeedP _ _ _ _ _ _ _ _ _
          rw [e1]
          exact ⟨sv, cv', rfl, hA, hT⟩
        have hc0 : c ≠ 0 := by omega
        rw [errV_ne hc0] at HF ⊢
        clear e1 hF hd hA hT HCL
        go_wp2
        go_ret2
        exact HF.out
      · have hpo := fun W => post_any F W
        have hpl := postL_len F
        obtain ⟨N, hN⟩ : ∃ N, N = (postL F).length := ⟨_, rfl⟩
        have HG2 : Hid (Ground B wc) := HG.out.turn HA.out hT
        rw [← hN] at hpl hpo e1
        have HIT := fun (W : World) (g : Ground B W) => hidN (itoaN (N : Int) W g.glob.ev.num (by omega) (by omega))
        obtain ⟨t1, ht1⟩ : ∃ t, t = eb (Lib.itoa (N : Int)) := ⟨_, rfl⟩
        have hz1 : t1.size ≤ 20 := by rw [ht1]; exact itoa_size _ (by omega) (by omega)
        have HTX : Hid (tClosedB ++ t1 = ba (tClosed ++ Lib.itoa (N : Int))) := by
          show _ = _
          rw [ht1, ← ba_app]; rfl
        rw [← ht1] at HIT
        have HF : Hid (∀ w', Below wc.heap.size wc w' → DeedP w B ph sv cv h (closeD h.bk h.cs s.data.toList) (.returned (.tuple #[.string (ba (tClosed ++ Lib.itoa (N : Int))), .nilIface])) w') := fun w' hb => by
          rw [e1]
          exact ⟨sv, cv', rfl, hA.below hb, hT.trans (HTurn.of_below hb)⟩
        unfold tClosedB at HTX
        rw [show errV 0 = Value.nilIface from rfl]
        obtain ⟨F1, F2, F3, F4, F5⟩ := F
        obtain ⟨d0, d1, d2, d3, d4, e0', e1', e2', e3', e4'⟩ := hF
        simp only at d0 d1 d2 d3 d4
        have hp := hpo wc
        unfold figV at hp
        simp only at hp
        clear hd hA hT HCL hpo e1 ht1 hN
        go_wp2_with fail
        refine hp.mono ?_
        rintro x w5 ⟨v, rfl, hown, hb5⟩
        obtain ⟨ad, cap, hv⟩ : ∃ ad cap, v = .slice ad N cap := own_lenN hown
        subst hv
        have hI := (HIT w5 (HG2.out.below hb5)).out
        clear hp hown d0 d1 d2 d3 d4 e0' e1' e2' e3' e4'
        go_wp2_with fail
        refine hI.mono ?_
        rintro x w6 ⟨rfl, hb6⟩
        have hfin := HF.out w6 (hb5.trans (hb6.mono hb5.size))
        have HFN := hidN hfin
        have e1 := HTX.out
        clear hI hfin
        go_wp2
        go_ret2
        exact HFN.out
end Go.Proofs.YtdkhohlhdiekmaaGreatDoor
