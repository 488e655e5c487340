/- A region that draws its order, of operations that all keep to a relation T (what the reads look at stays): reads are taken in whatever world T leads to, and what turns memory stands alone where it comes up. -/
import Derived.Test.YtcfgacdcgljbaaaGreatDoorBnA
namespace Go.Proofs.YtcfgacdcgljbaaaGreatDoor
open Go.RowKit
/-- A world that T leads to. -/
structure UpK (T : World → World → Prop) (w : World) where
  v : World
  h : T w v
section
variable {P : Program} {ops : Array Oper} {md : Region.Mode}
def kOp (P : Program) (ops : Array Oper) (T : World → World → Prop) (i : Nat) (K : Act → World → Prop) (a : Act) (w : World) : Prop :=
  match ops[i]? with
  | none => K a w
  | some o => if Region.wanted o (yielded ops a.tmps) then o.wp P a w (fun a' w' => T w w' ∧ K a' w') QF else K (a.put o.dst undef) w
def wpAnyK (P : Program) (md : Region.Mode) (ops : Array Oper) (T : World → World → Prop) (Q : Act → World → Prop) : Nat → Array Bool → Act → World → Prop
  | 0, listed, a, w => Region.ready md ops listed = [] ∧ Q a w
  | fuel + 1, listed, a, w => (Region.ready md ops listed = [] → Q a w) ∧ ∀ i ∈ Region.ready md ops listed, kOp P ops T i (wpAnyK P md ops T Q fuel (listed.setIfInBounds i true)) a w
theorem wpOp_of_kOp {T : World → World → Prop} {i : Nat} {a : Act} {w : World} {K K' : Act → World → Prop} {Q' : Exit → Act → World → Prop} (h : ∀ a w, K a w → K' a w) (hh : kOp P ops T i K a w) : wpOp P ops Q' i K' a w := by
  unfold kOp at hh
  unfold wpOp
  split
  · rename_i ho; simp only [ho] at hh; exact h _ _ hh
  · rename_i o ho
    simp only [ho] at hh
    split
    · rename_i hw; simp only [hw, if_true] at hh; exact .inl (wp_of_safe (fun a w hk => h _ _ hk.2) hh)
    · rename_i hw; simp only [hw] at hh; exact h _ _ hh
theorem wpAny_of_K {T : World → World → Prop} {Q : Act → World → Prop} {Q' : Exit → Act → World → Prop} (hQ : ∀ a w, Q a w → Q' .normal a w) : ∀ (fuel : Nat) (listed : Array Bool) (a : Act) (w : World),
    wpAnyK P md ops T Q fuel listed a w → wpAny P md ops Q' fuel listed a w
  | 0, _, _, _, h => ⟨h.1, hQ _ _ h.2⟩
  | fuel + 1, _, _, _, h => ⟨fun h0 => hQ _ _ (h.1 h0), fun i hi => wpOp_of_kOp (fun a' w' h' => wpAny_of_K hQ fuel _ a' w' h') (h.2 i hi)⟩
theorem YieldsR.kOp {R T : World → World → Prop} (hR : ∀ w, R w w) (hT0 : ∀ w, T w w) {i : Nat} {o : Oper} {v : Value} {a : Act} {w : World} (hi : ops[i]? = some o) (hy : YieldsR R P ops w o v a) {K : Act → World → Prop} (h : K (a.put o.dst v) w) : kOp P ops T i K a w := by
  unfold Go.Proofs.YtcfgacdcgljbaaaGreatDoor.kOp
  simp only [hi]
  rcases hy with ⟨hw, hv⟩ | ⟨hw, rfl⟩
  · simp only [hw, if_true]
    unfold Oper.wp
    rw [hv w (hR w)]
    exact ⟨hT0 _, h⟩
  · simp only [hw, Bool.false_eq_true, if_false]; exact h
theorem kOp_put {R : World → World → Prop} (hR : ∀ w, R w w) (hT : ∀ a b c, R a b → R b c → R a c) {T : World → World → Prop} {j : Nat} {oi oj : Oper} {v : Value} (hj : ops[j]? = some oj) (hap : oi.apart ops oj = true)
    (hsi : ∀ cs b, oi.op ≠ .select cs b) (hsj : ∀ cs b, oj.op ≠ .select cs b) (hm : ∀ w w', T w w' → R w w') {K : Act → World → Prop} {a : Act} {w : World}
    (hy : YieldsR R P ops w oi v a) (h : kOp P ops T j K (a.put oi.dst v) w) :
    kOp P ops T j (fun a' w' => YieldsR R P ops w' oi v a' ∧ K (a'.put oi.dst v) w') a w := by
  obtain ⟨h1, h2, h3⟩ := Oper.apart_spec hap
  unfold kOp at *
  simp only [hj] at *
  rw [wanted_put oj a oi.dst v h1] at h
  split
  · rename_i hw
    simp only [hw, if_true] at h
    exact wp_put (K := fun a' w' => T w w' ∧ K a' w') (execOp_put oj hsj a oi.dst v h1) h2 (fun b w' u hb hk => ⟨hk.1, hy.keep hT (hm _ _ hk.1) hb hsi h3, hk.2⟩) h
  · rename_i hw
    simp only [hw] at h
    exact ⟨hy.keep hT (hR _) rfl hsi h3, by rw [← Act.put_comm a v undef h2]; exact h⟩
theorem kOp_mono {T : World → World → Prop} {i : Nat} {a : Act} {w : World} {K K' : Act → World → Prop} (h : ∀ a w, K a w → K' a w) (hh : kOp P ops T i K a w) : kOp P ops T i K' a w := by
  unfold kOp at *
  split
  · rename_i ho; simp only [ho] at hh; exact h _ _ hh
  · rename_i o ho
    simp only [ho] at hh
    split
    · rename_i hw; simp only [hw, if_true] at hh; exact wp_of_safe (fun a w hk => ⟨hk.1, h _ _ hk.2⟩) hh
    · rename_i hw; simp only [hw] at hh; exact h _ _ hh
theorem wpAnyK_first {R T : World → World → Prop} (hR : ∀ w, R w w) (hT : ∀ a b c, R a b → R b c → R a c) (hT0 : ∀ w, T w w) (hm : ∀ w w', T w w' → R w w') {Q : Act → World → Prop} {i : Nat} {oi : Oper} {v : Value} (hi : ops[i]? = some oi)
    (hsel : ∀ (j : Nat) (o : Oper) cs b, ops[j]? = some o → o.op ≠ .select cs b) :
    ∀ (fuel : Nat) (listed : Array Bool) (a : Act) (w : World),
      (∀ j oj, ops[j]? = some oj → j ≠ i → listed.getD j true = false → (∀ e ∈ oj.after, Region.binds md e = true → e.on ≠ i) → oi.apart ops oj = true) →
      i ∈ Region.ready md ops listed → YieldsR R P ops w oi v a →
      wpAnyK P md ops T Q fuel (listed.setIfInBounds i true) (a.put oi.dst v) w → wpAnyK P md ops T Q (fuel + 1) listed a w := by
  intro fuel
  induction fuel with
  | zero =>
    intro listed a w _ hr hy H
    refine ⟨fun h => (by rw [h] at hr; cases hr), fun j hj => ?_⟩
    by_cases hji : j = i
    · subst hji; exact hy.kOp hR hT0 hi H
    · have := ready_mono hj hji
      rw [H.1] at this
      cases this
  | succ fuel ih =>
    intro listed a w hfree hr hy H
    refine ⟨fun h => (by rw [h] at hr; cases hr), fun j hj => ?_⟩
    by_cases hji : j = i
    · subst hji; exact hy.kOp hR hT0 hi H
    · have h1 := H.2 j (ready_mono hj hji)
      obtain ⟨hjun, oj, hoj, hall⟩ := mem_ready.1 hj
      have hnot : ∀ e ∈ oj.after, Region.binds md e = true → e.on ≠ i := fun e he hb heq => by
        have h1 := hall e he hb
        have h0 := (mem_ready.1 hr).1
        rw [heq] at h1
        rcases Nat.lt_or_ge i listed.size with h' | h'
        · simp [h'] at h0 h1; rw [h0] at h1; cases h1
        · simp [Array.getElem?_eq_none h'] at h1
      have h2 := kOp_put hR hT hoj (hfree j oj hoj hji hjun hnot) (fun cs b => hsel i oi cs b hi) (fun cs b => hsel j oj cs b hoj) hm hy h1
      have hfree' : ∀ k ok, ops[k]? = some ok → k ≠ i → (listed.setIfInBounds j true).getD k true = false →
          (∀ e ∈ ok.after, Region.binds md e = true → e.on ≠ i) → oi.apart ops ok = true := fun k ok hk hki hun hno => by
        refine hfree k ok hk hki ?_ hno
        by_cases hjk : j = k
        · subst hjk; exact hjun
        · rw [getD_set_ne true hjk] at hun; exact hun
      refine kOp_mono (fun a' w' h3 => ih (listed.setIfInBounds j true) a' w' hfree' (ready_mono hr (Ne.symm hji)) h3.1 ?_) h2
      rw [Array.setIfInBounds_comm _ _ hji]
      exact h3.2
def keepQ (T : World → World → Prop) (w : World) (K : Act → World → Prop) : Exit → Act → World → Prop := fun x a' w' => x = .normal ∧ T w w' ∧ K a' w'
theorem safe_of_keep {T : World → World → Prop} {o : Oper} {a : Act} {w : World} {K : Act → World → Prop} (hh : o.wp P a w (keepQ T w K .normal) (keepQ T w K)) : o.wp P a w (fun a' w' => T w w' ∧ K a' w') QF := by
  unfold Oper.wp at *
  generalize (execOp a.eval o).run P w = r at *
  cases r with
  | ok n w' =>
    cases n <;> simp only [Oper.upon] at hh ⊢ <;>
      first
        | exact hh.2
        | exact Calls.mono hh (fun e w'' he => by
            cases e
            · exact he.2
            · exact absurd he.1 (by simp)
            · obtain ⟨_, _, hf⟩ := he; exact absurd hf.1 (by simp))
        | exact Rows.mono hh (fun _ _ he => he.2)
  | halt x w' =>
    cases x <;> simp only [Oper.upon] at hh ⊢
    exact absurd hh.1 (by simp)
/-- The walk in the given order. -/
def wpKeep (P : Program) (ops : Array Oper) (T : World → World → Prop) (Q : Act → World → Prop) : List (Bool × Nat) → Act → World → Prop
  | [], a, w => Q a w
  | (true, k) :: rest, a, w => ∃ o, ops[k]? = some o ∧ wpQuiet P ops (fun w' => ∃ n : UpK T w, w' = n.v) (fun a' => wpKeep P ops T Q rest a' w) [o] a
  | (false, k) :: rest, a, w => ∃ o, ops[k]? = some o ∧ wpList P ops (keepQ T w (wpKeep P ops T Q rest)) [o] a w
theorem keep_nil {T : World → World → Prop} {Q : Act → World → Prop} {a : Act} {w : World} (h : Q a w) : wpKeep P ops T Q [] a w := h
theorem keep_q {T : World → World → Prop} {l : List Oper} {Q : Act → World → Prop} {k : Nat} {rest : List (Bool × Nat)} {a : Act} {w : World} {o : Oper} (ho : nth l k = some o)
    (h : wpQuiet P l.toArray (fun w' => ∃ n : UpK T w, w' = n.v) (fun a' => wpKeep P l.toArray T Q rest a' w) [o] a) : wpKeep P l.toArray T Q ((true, k) :: rest) a w := ⟨o, by rw [← ho, nth_is]; simp, h⟩
theorem keep_n {T : World → World → Prop} {l : List Oper} {Q : Act → World → Prop} {k : Nat} {rest : List (Bool × Nat)} {a : Act} {w : World} {o : Oper} (ho : nth l k = some o)
    (h : wpList P l.toArray (keepQ T w (wpKeep P l.toArray T Q rest)) [o] a w) : wpKeep P l.toArray T Q ((false, k) :: rest) a w := ⟨o, by rw [← ho, nth_is]; simp, h⟩
def keepB (md : Region.Mode) (ops : Array Oper) : List (Bool × Nat) → Array Bool → Bool
  | [], listed => (Region.ready md ops listed).isEmpty
  | (true, k) :: rest, listed => (Region.ready md ops listed).contains k && Region.free md ops listed k && (match ops[k]? with | some o => plainOpE o.op | none => false) && keepB md ops rest (listed.setIfInBounds k true)
  | (false, k) :: rest, listed => decide (Region.ready md ops listed = [k]) && keepB md ops rest (listed.setIfInBounds k true)
theorem wpAnyK_ord {T : World → World → Prop} (hT0 : ∀ w, T w w) (hTt : ∀ a b c, T a b → T b c → T a c) {Q : Act → World → Prop} (hs : Region.noSelect ops = true) : ∀ (ord : List (Bool × Nat)) (listed : Array Bool) (a : Act) (w : World), keepB md ops ord listed = true → wpKeep P ops T Q ord a w → wpAnyK P md ops T Q ord.length listed a w
  | [], listed, a, w, hB, h => ⟨by simpa [keepB] using hB, h⟩
  | (true, k) :: rest, listed, a, w, hB, ⟨o, ho, h⟩ => by
    simp only [keepB, Bool.and_eq_true] at hB
    obtain ⟨⟨⟨hr, hf⟩, hp⟩, hB'⟩ := hB
    rw [ho] at hp
    obtain ⟨v, hy, hK⟩ := yieldsR_of_quiet (R := T) (w := w) (fun w' hb => ⟨⟨w', hb⟩, rfl⟩) hp h
    exact wpAnyK_first (R := T) hT0 hTt hT0 (fun _ _ h => h) ho (Region.noSelect_spec hs) rest.length listed a w (Region.free_spec ho hf) (by simpa using hr) hy (wpAnyK_ord hT0 hTt hs rest _ _ _ hB' hK)
  | (false, k) :: rest, listed, a, w, hB, ⟨o, ho, h⟩ => by
    simp only [keepB, Bool.and_eq_true, decide_eq_true_eq] at hB
    obtain ⟨hr, hB'⟩ := hB
    refine ⟨fun h0 => (by rw [h0] at hr; cases hr), fun i hi => ?_⟩
    rw [hr] at hi
    obtain rfl : i = k := by simpa using hi
    unfold kOp
    simp only [ho]
    unfold wpList at h
    split
    · rename_i hw
      simp only [hw, if_true] at h
      rcases h with h | ⟨_, _, _, hf⟩
      · have h2 := safe_of_keep (K := wpKeep P ops T Q rest) h
        exact wp_of_safe (fun a w hk => ⟨hk.1, wpAnyK_ord hT0 hTt hs rest _ _ _ hB' hk.2⟩) h2
      · exact absurd hf.1 (by simp)
    · rename_i hw
      simp only [hw] at h
      exact wpAnyK_ord hT0 hTt hs rest _ _ _ hB' h.2.2
/-- One walk in the given order serves every order. -/
theorem wp_region_keep (T : World → World → Prop) {id : Nat} {Q : Exit → Act → World → Prop} {a : Act} {w : World} {l : List Oper} (ord : List (Bool × Nat)) (hT0 : ∀ w, T w w) (hTt : ∀ a b c, T a b → T b c → T a c) (hm : P.follows .mixedOrders = true)
    (hB : (Region.noSelect l.toArray && decide (ord.length = l.length) && keepB .any l.toArray ord (Array.replicate l.length false)) = true)
    (h : wpKeep P l.toArray T (fun a' w' => Q .normal a' w') ord a w.drew) : (Code.region id l.toArray true).wp P Q a w := by
  simp only [Bool.and_eq_true, decide_eq_true_eq] at hB
  obtain ⟨⟨hs, hl⟩, hB⟩ := hB
  refine wp_region_any hm ?_
  have := wpAny_of_K (Q' := Q) (fun a w h => h) _ _ _ _ (wpAnyK_ord (md := .any) hT0 hTt hs ord _ a w.drew hB h)
  rw [hl] at this
  simpa using this
end
/-- A block that nothing turns. -/
def SameAt (bx : Nat) (w w' : World) : Prop := w'.heap[bx]? = w.heap[bx]?
theorem sameAt_refl (bx : Nat) (w : World) : SameAt bx w w := rfl
theorem sameAt_trans (bx : Nat) (a b c : World) (h : SameAt bx a b) (h' : SameAt bx b c) : SameAt bx a c := Eq.trans h' h
theorem upK_ne (bx : Nat) (w : World) : Nonempty (UpK (SameAt bx) w) := ⟨⟨w, rfl⟩⟩
theorem UpK.cell {bx o : Nat} {w : World} (n : UpK (SameAt bx) w) {x : Value} (h : w.cell? ⟨bx, o, none⟩ = some x) : n.v.cell? ⟨bx, o, none⟩ = some x := (World.cell?_of_block (a := ⟨bx, o, none⟩) n.h).trans h
end Go.Proofs.YtcfgacdcgljbaaaGreatDoor
