/- Maps of texts to numbers. -/
import Derived.Test.YtcfgacdcgljbaaaGreatDoorHeldMem
import Derived.Sort.KeysCollected
namespace Go.Proofs.YtcfgacdcgljbaaaGreatDoor
open Go.RowKit Go.Maps
theorem zero_intT (w : World) : (zeroValue 3).run Tryz.prog w = .ok (.int .i64 0) w := by kernel_rfl
/-- A map of texts to numbers: which keys it has, and what it tells of each. -/
structure IMap (W : World) (mb n : Nat) (D : DataW Value) (f : ByteArray → Int) (dom : ByteArray → Prop) : Prop where
  map : W.ownsMap Tryz.prog 9 heldE mb n D
  at_ : ∀ x, D.atKey (keyB x) (.held (.int .i64 0)) = .held (.int .i64 (f x))
  has_ : ∀ x, has D (keyB x) = true ↔ dom x
section
variable {W w' : World} {mb n : Nat} {D : DataW Value} {f : ByteArray → Int} {dom : ByteArray → Prop}
theorem IMap.same (h : IMap W mb n D f dom) (e : w'.heap[mb]? = W.heap[mb]?) : IMap w' mb n D f dom := ⟨map_same h.map e, h.at_, h.has_⟩
theorem IMap.below (h : IMap W mb n D f dom) (hb : Below W.heap.size W w') : IMap w' mb n D f dom := h.same (hb.block _ h.map.lt)
theorem IMap.lt (h : IMap W mb n D f dom) : mb < W.heap.size := h.map.lt
theorem imap_new (W : World) : IMap (W.alloc (.map #[] 0)) W.heap.size 0 (.map []) (fun _ => 0) (fun _ => False) :=
  ⟨World.ownsMap_made W Tryz.prog 9 heldE, fun _ => rfl, fun x => by simp [has_eq]⟩
theorem IMap.look (h : IMap W mb n D f dom) (x : ByteArray) (hx : x.size ≤ maxLen) : (Instr.lookup 170 (.map (some mb)) (.string x) false).run Tryz.prog W = .ok (.int .i64 (f x)) W := by
  obtain ⟨v, ps, h1, h2⟩ := h.map.lookup law_strT Tryz.underlying170 (zero_intT W) (zd := .held (.int .i64 0)) (zp := []) rfl (key_str x hx)
  have h3 := heldE_inv h2
  rw [h.at_ x] at h3
  rw [h1, ← held_inj h3]
theorem IMap.lookOk (h : IMap W mb n D f dom) (x : ByteArray) (hx : x.size ≤ maxLen) (hd : ¬ dom x) : (Instr.lookup 170 (.map (some mb)) (.string x) true).run Tryz.prog W = .ok (.tuple #[.int .i64 (f x), .bool false]) W := by
  obtain ⟨v, ps, h1, h2⟩ := h.map.look_ok law_strT Tryz.underlying170 (zero_intT W) (zd := .held (.int .i64 0)) (zp := []) rfl (key_str x hx)
  have h3 := heldE_inv h2
  rw [h.at_ x] at h3
  have h4 : has D (keyB x) = false := by
    cases e : has D (keyB x)
    · rfl
    · exact absurd ((h.has_ x).1 e) hd
  rw [h4] at h1
  rw [h1, ← held_inj h3]
theorem IMap.put (h : IMap W mb n D f dom) {x : ByteArray} {k : Int} (hm : w'.ownsMap Tryz.prog 9 heldE mb (n + 1) (D.put (keyB x) (.held (.int .i64 k)))) :
    IMap w' mb (n + 1) (D.put (keyB x) (.held (.int .i64 k))) (fun z => if z = x then k else f z) (fun z => z = x ∨ dom z) := by
  have isM : IsMap D := (h.map.canon law_strT).imp fun es ⟨e, _⟩ => e
  refine ⟨hm, fun z => ?_, fun z => ?_⟩
  · by_cases e : z = x
    · subst e; rw [if_pos rfl, atKey_put_same isM (keyB_key z)]
    · rw [if_neg e, atKey_put_other (fun c => e (keyB_inj c)), h.at_]
  · by_cases e : z = x
    · subst e; simp [has_put_same isM (keyB_key z)]
    · rw [has_put_other (fun c => e (keyB_inj c)), h.has_]; simp [e]
theorem str_keys (h : W.ownsMap Tryz.prog 9 heldE mb n D) : (strKeys D).Nodup ∧ ∀ x, x ∈ strKeys D ↔ has D (.string x) = true := by
  obtain ⟨es, hD, hpw, _⟩ := h.entries law_strT
  obtain ⟨es', hD', hko⟩ := h.keysOf
  obtain rfl : es = es' := by rw [hD] at hD'; simpa using hD'
  subst hD
  have hk : ∀ p ∈ es, ∃ x, p.1 = .string x := fun p hp => by
    obtain ⟨v, hv⟩ := hko p hp
    obtain ⟨x, _, hx, _⟩ := Maps.keyOf_str Tryz.underlying9 hv
    exact ⟨x, hx⟩
  constructor
  · show (es.map fun p => strOf p.1).Nodup
    refine List.pairwise_map.2 (hpw.imp_of_mem fun {p q} hp' hq' hne e => hne ?_)
    obtain ⟨a, ha⟩ := hk p hp'
    obtain ⟨b, hb⟩ := hk q hq'
    rw [ha, hb] at e ⊢
    exact congrArg _ e
  · intro x
    rw [has_eq, List.any_eq_true]
    show x ∈ es.map (fun p => strOf p.1) ↔ _
    rw [List.mem_map]
    constructor
    · rintro ⟨p, hp', rfl⟩
      obtain ⟨a, ha⟩ := hk p hp'
      exact ⟨p, hp', by rw [ha]; simp [Lit.sameKey, strOf]⟩
    · rintro ⟨p, hp', hs⟩
      obtain ⟨a, ha⟩ := hk p hp'
      rw [ha] at hs
      exact ⟨p, hp', by rw [ha]; simpa [Lit.sameKey, strOf] using hs⟩
/-- A list of bytes as a text. -/
def baOf (l : List UInt8) : ByteArray := ⟨l.toArray⟩
theorem baOf_data (l : List UInt8) : (baOf l).data.toList = l := rfl
theorem baOf_of (x : ByteArray) : baOf x.data.toList = x := by cases x; rfl
theorem baOf_inj {a b : List UInt8} (h : baOf a = baOf b) : a = b := by rw [← baOf_data a, h, baOf_data]
/-- What slices.Sorted(maps.Keys(m)) hands back. -/
structure Keys (dom : ByteArray → Prop) (ks : List ByteArray) : Prop where
  nodup : ks.Nodup
  mem : ∀ x, x ∈ ks ↔ dom x
  sorted : ks.Pairwise fun a b => a.data.toList ≤ b.data.toList
theorem keys_of (h : IMap W mb n D f dom) {ss : List (List UInt8)} (hs : ss.Perm (strKeys D)) : ∃ ks : List ByteArray, Keys dom ks ∧ ss.mergeSort (fun x y => decide (x ≤ y)) = ks.map (fun x => x.data.toList) := by
  obtain ⟨hn, hm⟩ := str_keys h.map
  have tr : ∀ a b c : List UInt8, leB a b = true → leB b c = true → leB a c = true := fun a b c h1 h2 => by simp only [leB, decide_eq_true_eq] at *; exact List.le_trans h1 h2
  have to' : ∀ a b : List UInt8, (leB a b || leB b a) = true := fun a b => by simp only [leB, Bool.or_eq_true, decide_eq_true_eq]; exact List.le_total a b
  have hp : (ss.mergeSort leB).Perm (strKeys D) := (List.mergeSort_perm ss leB).trans hs
  have hpw := List.pairwise_mergeSort tr to' ss
  refine ⟨(ss.mergeSort leB).map baOf, ⟨?_, fun x => ?_, ?_⟩, ?_⟩
  · refine List.pairwise_map.2 ((hp.nodup_iff.2 hn).imp fun hne e => hne (baOf_inj e))
  · rw [← h.has_ x, List.mem_map]
    show _ ↔ has D (.string x.data.toList) = true
    rw [← hm, ← hp.mem_iff]
    constructor
    · rintro ⟨l, hl, rfl⟩; exact hl
    · intro hx; exact ⟨_, hx, baOf_of x⟩
  · refine List.pairwise_map.2 (hpw.imp fun {a b} hab => ?_)
    simpa [leB, baOf_data] using hab
  · rw [List.map_map]
    have e : ((fun x : ByteArray => x.data.toList) ∘ baOf) = id := by funext l; rfl
    rw [e, List.map_id]
end
end Go.Proofs.YtcfgacdcgljbaaaGreatDoor
