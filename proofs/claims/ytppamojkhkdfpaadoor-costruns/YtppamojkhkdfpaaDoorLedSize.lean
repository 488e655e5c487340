/- Maps of the same keys have the same size. -/
import Derived.Test.YtppamojkhkdfpaaDoorLedMap
import Derived.Test.YtppamojkhkdfpaaDoorBnA
import Derived.Sort.MapsRangeIn
namespace Go.Proofs.YtppamojkhkdfpaaDoor
open Go.RowKit Go.Maps
theorem keyL_inv {x : ByteArray} {kl : Lit} (h : keyOf Tryd.prog 9 (.string x) = some kl) : kl = keyB x ∧ x.size ≤ maxLen := by
  simp [keyOf, Tryd.underlying9, mapKey] at h
  exact ⟨h.2.symm, h.1⟩
theorem mapL_keys {w : World} {mb n : Nat} {D : DataW Value} (h : w.ownsMap Tryd.prog 9 heldE mb n D) {k : Lit} (hk : has D k = true) : ∃ x, k = keyB x := by
  obtain ⟨es, hD, hko⟩ := h.keysOf
  subst hD
  rw [has_eq, List.any_eq_true] at hk
  obtain ⟨p, hp, hpk⟩ := hk
  obtain ⟨v, hv⟩ := hko p hp
  obtain ⟨x, _, hx, _⟩ := Maps.keyOf_str Tryd.underlying9 hv
  exact ⟨baOf x, by rw [← WideAt.sameKey_eq hpk, hx]; rfl⟩
theorem sizeL_same {D1 D2 : DataW Value} (c1 : Canon D1) (c2 : Canon D2) (h : ∀ k, has D1 k = has D2 k) : Maps.size D1 = Maps.size D2 := by
  obtain ⟨e1, rfl, p1, k1⟩ := c1
  obtain ⟨e2, rfl, p2, k2⟩ := c2
  have mem : ∀ {es : List (Lit × DataW Value)}, (∀ p ∈ es, WideAt.IsKeyLit p.1) → ∀ k, k ∈ es.map (·.1) ↔ has (.map es) k = true := fun {es} hk k => by
    rw [has_eq, List.any_eq_true, List.mem_map]
    constructor
    · rintro ⟨p, hp, rfl⟩
      exact ⟨p, hp, WideAt.sameKey_self (hk p hp)⟩
    · rintro ⟨p, hp, e⟩
      exact ⟨p, hp, WideAt.sameKey_eq e⟩
  have nd : ∀ {es : List (Lit × DataW Value)}, es.Pairwise (fun p q => p.1.before q.1 = true) → (es.map (·.1)).Nodup := fun {es} hp => by
    rw [List.nodup_iff_pairwise_ne, List.pairwise_map]
    exact apart_of_rising hp
  have hp := (List.perm_ext_iff_of_nodup (nd p1) (nd p2)).2 fun k => by rw [mem k1, mem k2, h k]
  have := hp.length_eq
  simpa [size_eq] using this
theorem imap_size {W1 W2 : World} {m1 m2 n1 n2 : Nat} {D1 D2 : DataW Value} {f1 f2 : ByteArray → Int} {dom : ByteArray → Prop} (h1 : IMap W1 m1 n1 D1 f1 dom) (h2 : IMap W2 m2 n2 D2 f2 dom) : Maps.size D1 = Maps.size D2 := by
  refine sizeL_same (h1.map.canon law_strT) (h2.map.canon law_strT) fun k => ?_
  have hx : ∀ x, has D1 (keyB x) = has D2 (keyB x) := fun x => by rw [Bool.eq_iff_iff, h1.has_, h2.has_]
  by_cases e1 : has D1 k = true
  · obtain ⟨x, rfl⟩ := mapL_keys h1.map e1
    exact hx x
  · by_cases e2 : has D2 k = true
    · obtain ⟨x, rfl⟩ := mapL_keys h2.map e2
      exact hx x
    · rw [Bool.not_eq_true] at e1 e2
      rw [e1, e2]
theorem imap_ext0 {W : World} {mb n : Nat} {D : DataW Value} {f : ByteArray → Int} {dom : ByteArray → Prop} (h : IMap W mb n D f dom) (hd : ∀ x, ¬ dom x) : IMap W mb n D f (fun _ => False) :=
  ⟨h.map, h.at_, fun x => by rw [h.has_]; simp [hd x]⟩
theorem imap_none {W : World} {m n : Nat} {D : DataW Value} {f : ByteArray → Int} {dom : ByteArray → Prop} (h : IMap W m n D f dom) (hd : ∀ x, ¬ dom x) : Maps.size D = 0 := by
  have := imap_size (imap_ext0 h hd) (imap_new W)
  rw [this]; rfl
end Go.Proofs.YtppamojkhkdfpaaDoor
