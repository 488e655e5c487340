/- A region that draws its order, some of whose operations may come in any order whatever they make: reads first, then an invariant over what is listed, then an order of one's own for the rest. -/
import Derived.Test.YtmldaiofghpfdaaMixK
namespace Go.Proofs.Ytmldaiofghpfdaa
open Go.RowKit
/-- How many are not listed yet. -/
def left (listed : Array Bool) : Nat := listed.toList.count false
theorem count_set : ∀ (l : List Bool) (i : Nat) (h : i < l.length), l[i] = false → (l.set i true).count false + 1 = l.count false
  | [], i, h, _ => absurd h (Nat.not_lt_zero _)
  | b :: l, 0, _, e => by
    simp only [List.getElem_cons_zero] at e
    subst e
    simp
  | b :: l, i + 1, h, e => by
    have ih := count_set l i (by simpa using h) (by simpa using e)
    simp only [List.set_cons_succ, List.count_cons]
    omega
section
variable {P : Program} {ops : Array Oper} {md : Region.Mode}
theorem ready_false {listed : Array Bool} {i : Nat} (h : i ∈ Region.ready md ops listed) : ∃ hi : i < listed.size, listed[i] = false := by
  unfold Region.ready at h
  rw [List.mem_filter] at h
  have h2 := h.2
  simp only [Bool.and_eq_true, Bool.not_eq_true'] at h2
  have h3 := h2.1
  by_cases hi : i < listed.size
  · refine ⟨hi, ?_⟩
    rw [Array.getD_eq_getD_getElem?, Array.getElem?_eq_getElem hi] at h3
    exact h3
  · rw [Array.getD_eq_getD_getElem?, Array.getElem?_eq_none (by omega)] at h3
    cases h3
theorem left_set {listed : Array Bool} {i : Nat} (h : i ∈ Region.ready md ops listed) : left (listed.setIfInBounds i true) + 1 = left listed := by
  obtain ⟨hi, he⟩ := ready_false h
  unfold left
  rw [Array.toList_setIfInBounds]
  exact count_set listed.toList i (by simpa using hi) (by simpa using he)
/-- The invariant: either the rest has an order, or whatever is ready leads on. -/
theorem wpAnyK_inv {T : World → World → Prop} (hT0 : ∀ w, T w w) (hTt : ∀ a b c, T a b → T b c → T a c) {Q : Act → World → Prop} (hn : Region.noSelect ops = true) (J : Array Bool → Act → World → Prop)
    (hs : ∀ listed a w, J listed a w → (∃ ord : List (Bool × Nat), ord.length = left listed ∧ keepB md ops ord listed = true ∧ wpKeep P ops T Q ord a w) ∨ (Region.ready md ops listed ≠ [] ∧ ∀ i ∈ Region.ready md ops listed, kOp P ops T i (J (listed.setIfInBounds i true)) a w)) :
    ∀ (fuel : Nat) (listed : Array Bool) (a : Act) (w : World), left listed = fuel → J listed a w → wpAnyK P md ops T Q fuel listed a w
  | 0, listed, a, w, hl, hJ => by
    rcases hs listed a w hJ with ⟨ord, ho, hB, h⟩ | ⟨hne, _⟩
    · have := wpAnyK_ord hT0 hTt hn ord listed a w hB h
      rw [ho, hl] at this
      exact this
    · obtain ⟨i, hi⟩ := List.exists_mem_of_ne_nil _ hne
      have := left_set hi
      omega
  | fuel + 1, listed, a, w, hl, hJ => by
    rcases hs listed a w hJ with ⟨ord, ho, hB, h⟩ | ⟨hne, hall⟩
    · have := wpAnyK_ord hT0 hTt hn ord listed a w hB h
      rw [ho, hl] at this
      exact this
    · refine ⟨fun h0 => absurd h0 hne, fun i hi => kOp_mono (fun a' w' h' => ?_) (hall i hi)⟩
      exact wpAnyK_inv hT0 hTt hn J hs fuel _ a' w' (by have := left_set hi; omega) h'
def hoistB (md : Region.Mode) (ops : Array Oper) : List Nat → Array Bool → Bool
  | [], _ => true
  | k :: rest, listed => (Region.ready md ops listed).contains k && Region.free md ops listed k && (match ops[k]? with | some o => plainOpE o.op | none => false) && hoistB md ops rest (listed.setIfInBounds k true)
def listAll (listed : Array Bool) (ks : List Nat) : Array Bool := ks.foldl (fun b k => b.setIfInBounds k true) listed
theorem wpAnyK_hoist {T : World → World → Prop} (hT0 : ∀ w, T w w) (hTt : ∀ a b c, T a b → T b c → T a c) {Q : Act → World → Prop} (hs : Region.noSelect ops = true) (J : Array Bool → Act → World → Prop)
    (hJ : ∀ listed a w, J listed a w → wpAnyK P md ops T Q (left listed) listed a w) : ∀ (ks : List Nat) (listed : Array Bool) (a : Act) (w : World), hoistB md ops ks listed = true →
      wpKeep P ops T (J (listAll listed ks)) (ks.map fun k => (true, k)) a w → wpAnyK P md ops T Q (left listed) listed a w
  | [], listed, a, w, _, h => hJ _ _ _ h
  | k :: rest, listed, a, w, hB, ⟨o, ho, h⟩ => by
    simp only [hoistB, Bool.and_eq_true] at hB
    obtain ⟨⟨⟨hr, hf⟩, hp⟩, hB'⟩ := hB
    rw [ho] at hp
    have hr' : k ∈ Region.ready md ops listed := by simpa using hr
    obtain ⟨v, hy, hK⟩ := yieldsR_of_quiet (R := T) (w := w) (fun w' hb => ⟨⟨w', hb⟩, rfl⟩) hp h
    rw [← left_set hr']
    exact wpAnyK_first (R := T) hT0 hTt hT0 (fun _ _ h => h) ho (Region.noSelect_spec hs) _ listed a w (Region.free_spec ho hf) hr' hy (wpAnyK_hoist hT0 hTt hs J hJ rest _ _ _ hB' hK)
theorem left_replicate (n : Nat) : left (Array.replicate n false) = n := by
  unfold left
  rw [Array.toList_replicate, List.count_replicate_self]
/-- An operation alone. -/
theorem kOp_of {T : World → World → Prop} {i : Nat} {K : Act → World → Prop} {a : Act} {w : World} {o : Oper} (ho : ops[i]? = some o) (h : wpList P ops (keepQ T w K) [o] a w) : kOp P ops T i K a w := by
  unfold kOp
  simp only [ho]
  unfold wpList at h
  split
  · rename_i hw
    simp only [hw, if_true] at h
    rcases h with h | ⟨_, _, _, hf⟩
    · exact safe_of_keep (K := K) h
    · exact absurd hf.1 (by simp)
  · rename_i hw
    simp only [hw] at h
    exact h.2.2
/-- A function of one argument called. -/
theorem list_call {T : World → World → Prop} {K : Act → World → Prop} {a : Act} {w0 w : World} {o : Oper} (hg : o.guard = none) (f k : Nat) (t : TypeId) (ho : o.op = .call { callee := .value (.func f), args := #[.tmp k], argTypes := #[t] }) (ef : ∀ args w, (callFunc f args).run P w = .ok (.enter f args) w)
    (h : Calls P f #[a.eval (.tmp k)] w fun r w' => ∃ u, r = .returned u ∧ T w0 w' ∧ K (a.put o.dst u) w') : wpList P ops (keepQ T w0 K) [o] a w := by
  refine wpList_plain hg fun K' hK' => ?_
  have e : (execOp a.eval o).run P w = .ok (.enter f #[a.eval (.tmp k)]) w := by
    have hf : a.eval (.func f) = .func (.func f) #[] #[] := rfl
    simp [execOp, ho, resolve, invoke, hf, Deferred.ofValue, ef]
  unfold Oper.wp
  rw [e]
  refine h.mono ?_
  rintro r w' ⟨u, rfl, hT, hK⟩
  exact hK' _ _ ⟨rfl, hT, hK⟩
/-- A block made. -/
theorem list_alloc {T : World → World → Prop} {K : Act → World → Prop} {a : Act} {w0 w : World} {o : Oper} (hg : o.guard = none) (t : TypeId) (ho : o.op = .alloc t) (v : Value) (w' : World) (hr : (Instr.alloc t true (.tuple #[])).run P w = .ok v w')
    (hT : T w0 w') (hK : K (a.put o.dst v) w') : wpList P ops (keepQ T w0 K) [o] a w := by
  refine wpList_plain hg fun K' hK' => ?_
  have e : (execOp a.eval o).run P w = .ok (.value v) w' := by
    simp [execOp, ho, hr, Result.andThen]
  unfold Oper.wp
  rw [e]
  exact hK' _ _ ⟨rfl, hT, hK⟩
/-- A row of one part made. -/
theorem list_build {T : World → World → Prop} {K : Act → World → Prop} {a : Act} {w0 w : World} {o : Oper} (hg : o.guard = none) (t : TypeId) (k : Nat) (ho : o.op = .buildSlice t 1 #[(0, .tmp k)]) (v : Value) (w' : World) (hr : (Instr.buildSlice t 1 #[(0, a.eval (.tmp k))]).run P w = .ok v w')
    (hT : T w0 w') (hK : K (a.put o.dst v) w') : wpList P ops (keepQ T w0 K) [o] a w := by
  refine wpList_plain hg fun K' hK' => ?_
  have e : (execOp a.eval o).run P w = .ok (.value v) w' := by
    simp [execOp, ho, hr, Result.andThen]
  unfold Oper.wp
  rw [e]
  exact hK' _ _ ⟨rfl, hT, hK⟩
/-- Reads first, then the invariant. -/
theorem wp_region_inv (T : World → World → Prop) {id : Nat} {Q : Exit → Act → World → Prop} {a : Act} {w : World} {l : List Oper} (ks : List Nat) (J : Act → Array Bool → Act → World → Prop) (hT0 : ∀ w, T w w) (hTt : ∀ a b c, T a b → T b c → T a c) (hm : P.follows .mixedOrders = true)
    (hB : (Region.noSelect l.toArray && hoistB .any l.toArray ks (Array.replicate l.length false)) = true)
    (hs : ∀ listed a' w', J a listed a' w' → (∃ ord : List (Bool × Nat), ord.length = left listed ∧ keepB .any l.toArray ord listed = true ∧ wpKeep P l.toArray T (fun a' w' => Q .normal a' w') ord a' w') ∨ (Region.ready .any l.toArray listed ≠ [] ∧ ∀ i ∈ Region.ready .any l.toArray listed, kOp P l.toArray T i (J a (listed.setIfInBounds i true)) a' w'))
    (h : wpKeep P l.toArray T (J a (listAll (Array.replicate l.length false) ks)) (ks.map fun k => (true, k)) a w.drew) : (Code.region id l.toArray true).wp P Q a w := by
  simp only [Bool.and_eq_true] at hB
  obtain ⟨hn, hB⟩ := hB
  refine wp_region_any hm ?_
  have h1 := wpAnyK_hoist (md := .any) hT0 hTt hn (J a) (fun listed a' w' hJ => wpAnyK_inv hT0 hTt hn (J a) hs _ listed a' w' rfl hJ) ks _ a w.drew hB h
  rw [left_replicate] at h1
  have := wpAny_of_K (Q' := Q) (fun a w h => h) _ _ _ _ h1
  simpa using this
end
end Go.Proofs.Ytmldaiofghpfdaa
