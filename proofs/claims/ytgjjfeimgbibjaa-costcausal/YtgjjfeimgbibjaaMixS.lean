/- As the text before it, where a part of a slice is taken beside the reads. -/
import Derived.Test.YtgjjfeimgbibjaaMixK
namespace Go.Proofs.Ytgjjfeimgbibjaa
open Go.RowKit
section
variable {P : Program} {ops : Array Oper} {md : Region.Mode}
def plainOpS : Op → Bool
  | .slice .. => true
  | o => plainOpE o
theorem plain_onlyS {ρ : Operand → Value} {o : Oper} {w w' : World} {n : Next} (hp : plainOpS o.op = true) (h : (execOp ρ o).run P w = .ok n w') : ∃ u, n = .value u := by
  cases hop : o.op with
  | slice t x lo hi mx =>
    have key : VOnly P (execOp ρ o) := by
      unfold execOp
      rw [hop]
      simp only
      exact vonly_bind _ _ (fun _ => vonly_pure _)
    exact key w n w' h
  | _ =>
    refine plain_onlyE (o := o) ?_ h
    rw [hop] at hp ⊢
    exact hp
theorem yieldsS_of_quiet {R : World → World → Prop} {C : World → Prop} {w : World} {o : Oper} {a : Act} {K : Act → Prop} (hC : ∀ w', R w w' → C w') (hp : plainOpS o.op = true) (h : wpQuiet P ops C K [o] a) : ∃ v, YieldsR R P ops w o v a ∧ K (a.put o.dst v) := by
  unfold wpQuiet at h
  split at h
  · rename_i hw
    obtain ⟨v, h1, h2⟩ := h
    refine ⟨v, .inl ⟨hw, fun n hn => ?_⟩, h2⟩
    have h3 := h1 n (hC n hn)
    unfold Oper.quietAt at h3
    cases hr : (execOp a.eval o).run P n with
    | ok m w' =>
      obtain ⟨u, rfl⟩ := plain_onlyS hp hr
      rw [hr] at h3
      obtain ⟨e1, e2⟩ := h3
      rw [e1, e2]
    | halt x w' => rw [hr] at h3; exact False.elim h3
  · rename_i hw
    exact ⟨undef, .inr ⟨by simpa using hw, rfl⟩, h⟩
def keepBS (md : Region.Mode) (ops : Array Oper) : List (Bool × Nat) → Array Bool → Bool
  | [], listed => (Region.ready md ops listed).isEmpty
  | (true, k) :: rest, listed => (Region.ready md ops listed).contains k && Region.free md ops listed k && (match ops[k]? with | some o => plainOpS o.op | none => false) && keepBS md ops rest (listed.setIfInBounds k true)
  | (false, k) :: rest, listed => decide (Region.ready md ops listed = [k]) && keepBS md ops rest (listed.setIfInBounds k true)
theorem wpAnyK_ordS {T : World → World → Prop} (hT0 : ∀ w, T w w) (hTt : ∀ a b c, T a b → T b c → T a c) {Q : Act → World → Prop} (hs : Region.noSelect ops = true) : ∀ (ord : List (Bool × Nat)) (listed : Array Bool) (a : Act) (w : World), keepBS md ops ord listed = true → wpKeep P ops T Q ord a w → wpAnyK P md ops T Q ord.length listed a w
  | [], listed, a, w, hB, h => ⟨by simpa [keepBS] using hB, h⟩
  | (true, k) :: rest, listed, a, w, hB, ⟨o, ho, h⟩ => by
    simp only [keepBS, Bool.and_eq_true] at hB
    obtain ⟨⟨⟨hr, hf⟩, hp⟩, hB'⟩ := hB
    rw [ho] at hp
    obtain ⟨v, hy, hK⟩ := yieldsS_of_quiet (R := T) (w := w) (fun w' hb => ⟨⟨w', hb⟩, rfl⟩) hp h
    exact wpAnyK_first (R := T) hT0 hTt hT0 (fun _ _ h => h) ho (Region.noSelect_spec hs) rest.length listed a w (Region.free_spec ho hf) (by simpa using hr) hy (wpAnyK_ordS hT0 hTt hs rest _ _ _ hB' hK)
  | (false, k) :: rest, listed, a, w, hB, ⟨o, ho, h⟩ => by
    simp only [keepBS, Bool.and_eq_true, decide_eq_true_eq] at hB
    obtain ⟨hr, hB'⟩ := hB
    refine ⟨fun h0 => (by rw [h0] at hr; cases hr), fun i hi => ?_⟩
    rw [hr] at hi
    obtain rfl : i = k := by simpa using hi
    unfold kOp
    simp only [ho]
    unfold wpList at h
    split
    · rename_i hw
      simp only [hw, if_true] at h
      rcases h with h | ⟨_, _, _, hf⟩
      · have h2 := safe_of_keep (K := wpKeep P ops T Q rest) h
        exact wp_of_safe (fun a w hk => ⟨hk.1, wpAnyK_ordS hT0 hTt hs rest _ _ _ hB' hk.2⟩) h2
      · exact absurd hf.1 (by simp)
    · rename_i hw
      simp only [hw] at h
      exact wpAnyK_ordS hT0 hTt hs rest _ _ _ hB' h.2.2
/-- One walk in the given order serves every order. -/
theorem wp_region_keepS (T : World → World → Prop) {id : Nat} {Q : Exit → Act → World → Prop} {a : Act} {w : World} {l : List Oper} (ord : List (Bool × Nat)) (hT0 : ∀ w, T w w) (hTt : ∀ a b c, T a b → T b c → T a c) (hm : P.follows .mixedOrders = true)
    (hB : (Region.noSelect l.toArray && decide (ord.length = l.length) && keepBS .any l.toArray ord (Array.replicate l.length false)) = true)
    (h : wpKeep P l.toArray T (fun a' w' => Q .normal a' w') ord a w.drew) : (Code.region id l.toArray true).wp P Q a w := by
  simp only [Bool.and_eq_true, decide_eq_true_eq] at hB
  obtain ⟨⟨hs, hl⟩, hB⟩ := hB
  refine wp_region_any hm ?_
  have := wpAny_of_K (Q' := Q) (fun a w h => h) _ _ _ _ (wpAnyK_ordS (md := .any) hT0 hTt hs ord _ a w.drew hB h)
  rw [hl] at this
  simpa using this
end
end Go.Proofs.Ytgjjfeimgbibjaa
