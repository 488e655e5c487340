/- Texts that are sorted, each once, are one row. No walk. The keys of a map of texts, in order. -/
import Derived.Test.YtcfgacdcgljbaaaGreatDoorBnA
import Derived.Test.YtcfgacdcgljbaaaGreatDoorBnM
import Derived.Sort.KeysCollected
namespace Go.Proofs.YtcfgacdcgljbaaaGreatDoor
open Go.RowKit
theorem row_one : ∀ {a b : List ByteArray}, a.Nodup → b.Nodup → (∀ x, x ∈ a ↔ x ∈ b) → (a.Pairwise fun x y => x.data.toList ≤ y.data.toList) → (b.Pairwise fun x y => x.data.toList ≤ y.data.toList) → a = b
  | [], [], _, _, _, _, _ => rfl
  | [], y :: _, _, _, hm, _, _ => absurd ((hm y).2 List.mem_cons_self) List.not_mem_nil
  | x :: _, [], _, _, hm, _, _ => absurd ((hm x).1 List.mem_cons_self) List.not_mem_nil
  | x :: a, y :: b, ha, hb, hm, sa, sb => by
    rw [List.nodup_cons] at ha hb
    rw [List.pairwise_cons] at sa sb
    have hxy : x = y := by
      rcases List.mem_cons.1 ((hm x).1 List.mem_cons_self) with e | h1
      · exact e
      · rcases List.mem_cons.1 ((hm y).2 List.mem_cons_self) with e | h2
        · exact e.symm
        · have h3 := sb.1 x h1
          have h4 := sa.1 y h2
          exact ByteArray.ext (Array.toList_inj.1 (List.le_antisymm h4 h3))
    subst hxy
    rw [row_one ha.2 hb.2 (fun z => ?_) sa.2 sb.2]
    have h := hm z
    constructor
    · intro hz
      rcases List.mem_cons.1 (h.1 (List.mem_cons_of_mem _ hz)) with e | h1
      · subst e; exact absurd hz ha.1
      · exact h1
    · intro hz
      rcases List.mem_cons.1 (h.2 (List.mem_cons_of_mem _ hz)) with e | h1
      · subst e; exact absurd hz hb.1
      · exact h1
end Go.Proofs.YtcfgacdcgljbaaaGreatDoor
namespace Go.Proofs.YtcfgacdcgljbaaaGreatDoor
open Go.RowKit Go.Maps
theorem own_lenK {w : World} {B : Nat} {T : TypeId} {m n : Nat} {v : Value} {xs : List Value} (h : w.ownsRow B T m v n xs) : ∃ ad n' cap, v = .slice ad n' cap := by
  rcases h.2 with ⟨rfl, _⟩ | ⟨g, cap, cur, rfl, _⟩
  · exact ⟨_, _, _, rfl⟩
  · exact ⟨_, _, _, rfl⟩
theorem enc_flatK : ∀ ks : List ByteArray, (ks.map fun x : ByteArray => x.data.toList).map Go.Proofs.encStr = ks.flatMap fun x => [Value.string x]
  | [] => rfl
  | k :: ks => by
    have e : Go.Proofs.encStr k.data.toList = .string k := by cases k; rfl
    simp only [List.map_cons, List.flatMap_cons, enc_flatK ks, e]
    rfl
section
variable {W : World} {mb n : Nat} {D : DataW Value}
theorem str_keys (h : W.ownsMap Tryz.prog 9 heldE mb n D) : (strKeys D).Nodup ∧ ∀ x, x ∈ strKeys D ↔ has D (.string x) = true := by
  obtain ⟨es, hD, hpw, _⟩ := h.entries law_strT
  obtain ⟨es', hD', hko⟩ := h.keysOf
  obtain rfl : es = es' := by rw [hD] at hD'; simpa using hD'
  subst hD
  have hk : ∀ p ∈ es, ∃ x, p.1 = .string x := fun p hp => by
    obtain ⟨v, hv⟩ := hko p hp
    obtain ⟨x, _, hx, _⟩ := Maps.keyOf_str Tryz.underlying9 hv
    exact ⟨x, hx⟩
  constructor
  · show (es.map fun p => strOf p.1).Nodup
    refine List.pairwise_map.2 (hpw.imp_of_mem fun {p q} hp' hq' hne e => hne ?_)
    obtain ⟨a, ha⟩ := hk p hp'
    obtain ⟨b, hb⟩ := hk q hq'
    rw [ha, hb] at e ⊢
    exact congrArg _ e
  · intro x
    rw [has_eq, List.any_eq_true]
    show x ∈ es.map (fun p => strOf p.1) ↔ _
    rw [List.mem_map]
    constructor
    · rintro ⟨p, hp', rfl⟩
      obtain ⟨a, ha⟩ := hk p hp'
      exact ⟨p, hp', by rw [ha]; simp [Lit.sameKey, strOf]⟩
    · rintro ⟨p, hp', hs⟩
      obtain ⟨a, ha⟩ := hk p hp'
      rw [ha] at hs
      exact ⟨p, hp', by rw [ha]; simpa [Lit.sameKey, strOf] using hs⟩
/-- A list of bytes as a text. -/
def baOf (l : List UInt8) : ByteArray := ⟨l.toArray⟩
theorem baOf_data (l : List UInt8) : (baOf l).data.toList = l := rfl
theorem baOf_of (x : ByteArray) : baOf x.data.toList = x := by cases x; rfl
theorem baOf_inj {a b : List UInt8} (h : baOf a = baOf b) : a = b := by rw [← baOf_data a, h, baOf_data]
/-- What slices.Sorted(maps.Keys(m)) hands back. -/
structure Keys (dom : ByteArray → Prop) (ks : List ByteArray) : Prop where
  nodup : ks.Nodup
  mem : ∀ x, x ∈ ks ↔ dom x
  sorted : ks.Pairwise fun a b => a.data.toList ≤ b.data.toList
end
theorem keysD {W : World} {mb n : Nat} {D : DataW Value} {dom : ByteArray → Prop} (h : W.ownsMap Tryz.prog 9 heldE mb n D) (hd : ∀ x, has D (keyB x) = true ↔ dom x) {ss : List (List UInt8)} (hs : ss.Perm (strKeys D)) : ∃ ks : List ByteArray, Keys dom ks ∧ ss.mergeSort (fun x y => decide (x ≤ y)) = ks.map (fun x => x.data.toList) := by
  obtain ⟨hn, hm⟩ := str_keys h
  have tr : ∀ a b c : List UInt8, leB a b = true → leB b c = true → leB a c = true := fun a b c h1 h2 => by simp only [leB, decide_eq_true_eq] at *; exact List.le_trans h1 h2
  have to' : ∀ a b : List UInt8, (leB a b || leB b a) = true := fun a b => by simp only [leB, Bool.or_eq_true, decide_eq_true_eq]; exact List.le_total a b
  have hp : (ss.mergeSort leB).Perm (strKeys D) := (List.mergeSort_perm ss leB).trans hs
  have hpw := List.pairwise_mergeSort tr to' ss
  refine ⟨(ss.mergeSort leB).map baOf, ⟨?_, fun x => ?_, ?_⟩, ?_⟩
  · refine List.pairwise_map.2 ((hp.nodup_iff.2 hn).imp fun hne e => hne (baOf_inj e))
  · rw [← hd x, List.mem_map]
    show _ ↔ has D (.string x.data.toList) = true
    rw [← hm, ← hp.mem_iff]
    constructor
    · rintro ⟨l, hl, rfl⟩; exact hl
    · intro hx; exact ⟨_, hx, baOf_of x⟩
  · refine List.pairwise_map.2 (hpw.imp fun {a b} hab => ?_)
    simpa [leB, baOf_data] using hab
  · rw [List.map_map]
    have e : ((fun x : ByteArray => x.data.toList) ∘ baOf) = id := by funext l; rfl
    rw [e, List.map_id]
end Go.Proofs.YtcfgacdcgljbaaaGreatDoor
