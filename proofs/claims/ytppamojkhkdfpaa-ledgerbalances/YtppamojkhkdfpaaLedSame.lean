/- Two maps of texts to numbers that tell the same: the walk of tallymankeep.LedgerBalances' 'same'. -/
import Derived.Test.YtppamojkhkdfpaaLedMap
import Derived.Test.YtppamojkhkdfpaaEventBase
import Derived.Sort.MapsRangeIn
namespace Go.Proofs.Ytppamojkhkdfpaa
open Go.RowKit Go.Maps
theorem keyL_inv {x : ByteArray} {kl : Lit} (h : keyOf Try.prog 9 (.string x) = some kl) : kl = keyB x ∧ x.size ≤ maxLen := by
  simp [keyOf, Try.underlying9, mapKey] at h
  exact ⟨h.2.symm, h.1⟩
theorem mapL_keys {w : World} {mb n : Nat} {D : DataW Value} (h : w.ownsMap Try.prog 9 heldE mb n D) {k : Lit} (hk : has D k = true) : ∃ x, k = keyB x := by
  obtain ⟨es, hD, hko⟩ := h.keysOf
  subst hD
  rw [has_eq, List.any_eq_true] at hk
  obtain ⟨p, hp, hpk⟩ := hk
  obtain ⟨v, hv⟩ := hko p hp
  obtain ⟨x, _, hx, _⟩ := Maps.keyOf_str Try.underlying9 hv
  exact ⟨baOf x, by rw [← WideAt.sameKey_eq hpk, hx]; rfl⟩
theorem sizeL_same {D1 D2 : DataW Value} (c1 : Canon D1) (c2 : Canon D2) (h : ∀ k, has D1 k = has D2 k) : Maps.size D1 = Maps.size D2 := by
  obtain ⟨e1, rfl, p1, k1⟩ := c1
  obtain ⟨e2, rfl, p2, k2⟩ := c2
  have mem : ∀ {es : List (Lit × DataW Value)}, (∀ p ∈ es, WideAt.IsKeyLit p.1) → ∀ k, k ∈ es.map (·.1) ↔ has (.map es) k = true := fun {es} hk k => by
    rw [has_eq, List.any_eq_true, List.mem_map]
    constructor
    · rintro ⟨p, hp, rfl⟩
      exact ⟨p, hp, WideAt.sameKey_self (hk p hp)⟩
    · rintro ⟨p, hp, e⟩
      exact ⟨p, hp, WideAt.sameKey_eq e⟩
  have nd : ∀ {es : List (Lit × DataW Value)}, es.Pairwise (fun p q => p.1.before q.1 = true) → (es.map (·.1)).Nodup := fun {es} hp => by
    rw [List.nodup_iff_pairwise_ne, List.pairwise_map]
    exact apart_of_rising hp
  have hp := (List.perm_ext_iff_of_nodup (nd p1) (nd p2)).2 fun k => by rw [mem k1, mem k2, h k]
  have := hp.length_eq
  simpa [size_eq] using this
theorem imap_size {W1 W2 : World} {m1 m2 n1 n2 : Nat} {D1 D2 : DataW Value} {f1 f2 : ByteArray → Int} {dom : ByteArray → Prop} (h1 : IMap W1 m1 n1 D1 f1 dom) (h2 : IMap W2 m2 n2 D2 f2 dom) : Maps.size D1 = Maps.size D2 := by
  refine sizeL_same (h1.map.canon law_strT) (h2.map.canon law_strT) fun k => ?_
  have hx : ∀ x, has D1 (keyB x) = has D2 (keyB x) := fun x => by rw [Bool.eq_iff_iff, h1.has_, h2.has_]
  by_cases e1 : has D1 k = true
  · obtain ⟨x, rfl⟩ := mapL_keys h1.map e1
    exact hx x
  · by_cases e2 : has D2 k = true
    · obtain ⟨x, rfl⟩ := mapL_keys h2.map e2
      exact hx x
    · rw [Bool.not_eq_true] at e1 e2
      rw [e1, e2]
theorem imap_ext0 {W : World} {mb n : Nat} {D : DataW Value} {f : ByteArray → Int} {dom : ByteArray → Prop} (h : IMap W mb n D f dom) (hd : ∀ x, ¬ dom x) : IMap W mb n D f (fun _ => False) :=
  ⟨h.map, h.at_, fun x => by rw [h.has_]; simp [hd x]⟩
theorem imap_none {W : World} {m n : Nat} {D : DataW Value} {f : ByteArray → Int} {dom : ByteArray → Prop} (h : IMap W m n D f dom) (hd : ∀ x, ¬ dom x) : Maps.size D = 0 := by
  have := imap_size (imap_ext0 h hd) (imap_new W)
  rw [this]; rfl
set_option maxHeartbeats 2000000 in
theorem same_any {w : World} {m1 m2 n1 n2 : Nat} {D1 D2 : DataW Value} {f : ByteArray → Int} {dom : ByteArray → Prop} (h1 : IMap w m1 n1 D1 f dom) (h2 : IMap w m2 n2 D2 f dom) :
    Calls Try.prog 8 #[.map (some m1), .map (some m2)] w fun r w' => r = .returned (.bool true) ∧ Below w.heap.size w w' := by
  have hl1 := fun ty => h1.map.len Try.underlying27 ty
  have hl2 := fun ty => h2.map.len Try.underlying27 ty
  rw [imap_size h1 h2] at hl1
  have H1 := hidE h1
  have H2 := hidE h2
  clear h1 h2
  go_enter Try.func8, Try.ntmps8
  go_wp2_with (first
    | (at_range; refine wpList_range_own _ rfl _ 27 rfl 9 3 law_strT Try.underlying27 heldE m1 n1 D1 rfl H1.out.map ?_)
    | go_in)
  intro wR hrg0 hg0 hsR
  have HG0 : Hid (wR.ranges Try.prog 9 heldE m1 w.heap.size n1 D1 (Maps.has D1) (Maps.size D1)) := hrg0
  have HBR : Hid (Below w.heap.size w wR) := ⟨hg0.os, hg0.tape, hg0.output, hg0.size, fun j hj => hg0.block j hj (by simp)⟩
  clear hrg0 hg0 hl1 hl2
  go_wp2
  go_loopw [] (fun wr => ∃ (left : Lit → Bool) (cnt : Nat), Hid (wr.ranges Try.prog 9 heldE m1 w.heap.size n1 D1 left cnt) ∧ Hid (Below w.heap.size w wr)) (fun wr => wr.rangeLeft m1 w.heap.size)
  case atStart => exact ⟨_, _, HG0, HBR⟩
  case round =>
    obtain ⟨left, cnt, HR, HBr⟩ := hrel
    go_wp2_with (at_next; refine wpList_next_ranges _ rfl _ rfl 9 law_strT heldE Value.string (fun c : Value => c) (fun key kl hkey => by obtain ⟨s, hs⟩ := Maps.keyOf_string_inv Try.underlying9 hkey; exact ⟨s, hs⟩) (fun v y _ => ⟨v, rfl⟩) m1 w.heap.size n1 D1 left cnt rfl HR.out ?_ ?_)
    · intro hc0 hl0
      clear hc0 hl0
      go_wp2
      go_ret
      exact ⟨rfl, HBr.out⟩
    · intro x c kl yd yp w2 cnt2 hkey hlk hcv hat hrg2 hlt2 hgr2 hsz2 hen
      obtain ⟨rfl, hxs⟩ := keyL_inv hkey
      have hcx : c = .int .i64 (f x) := by
        have h1 := hat (.held (.int .i64 0))
        rw [H1.out.at_ x, heldE_inv hcv] at h1
        exact (held_inj h1).symm
      subst hcx
      have hB2 : Below w.heap.size w w2 := HBr.out.grown hgr2 (by have := HR.out.lt; omega) (fun j hj => by cases hj; omega)
      have HR2 : Hid (w2.ranges Try.prog 9 heldE m1 w.heap.size n1 D1 (fun z => left z && !z.sameKey (keyB x)) cnt2) := hrg2
      have HLV : Hid (wr.rangeLeft m1 w.heap.size = cnt) := HR.out.left_eq
      have hlk2 := (H2.out.below hB2).look x hxs
      have HB2 := hidE hB2
      clear hrg2 hat hcv hlk hkey hgr2 hB2
      go_wp2
      go_roundw
      case rel => exact ⟨_, cnt2, HR2, HB2⟩
      case measure =>
        rw [HLV.out, HR2.out.left_eq]
        exact hlt2
end Go.Proofs.Ytppamojkhkdfpaa
