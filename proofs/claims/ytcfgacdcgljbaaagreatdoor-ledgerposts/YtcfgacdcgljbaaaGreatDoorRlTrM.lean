/- Balances gathered one by one, in plain mathematics. No walk. -/
import Derived.Test.YtcfgacdcgljbaaaGreatDoorLedTrial
namespace Go.Proofs.YtcfgacdcgljbaaaGreatDoor
open Go.RowKit
/-- A balance. -/
structure Blc where
  acc : ByteArray
  amt : Int
  deriving Inhabited
def rblC (b : Blc) : List Value := [.string b.acc, .int .i64 b.amt]
theorem rblC_len (b : Blc) : (rblC b).length = 2 := rfl
theorem rblC_one (b : Blc) : ∀ u ∈ rblC b, u.oneCell' = true := by
  intro u hu
  simp only [rblC, List.mem_cons, List.not_mem_nil, or_false] at hu
  rcases hu with rfl | rfl <;> rfl
/-- Balances of some accounts, each once. -/
structure Gath (out : List Blc) (f : ByteArray → Int) (S : ByteArray → Prop) : Prop where
  nd : (out.map (·.acc)).Nodup
  mem : ∀ x, x ∈ out.map (·.acc) ↔ S x
  val : ∀ b ∈ out, b.amt = f b.acc
  none : ∀ x, ¬ S x → f x = 0
theorem gath_zero : Gath [] (fun _ => 0) (fun _ => False) := ⟨List.nodup_nil, by simp, by simp, fun _ _ => rfl⟩
def addF (f : ByteArray → Int) (a : ByteArray) (n : Int) (x : ByteArray) : Int := if x = a then wrap64 (f x + n) else f x
/-- A new account. -/
theorem Gath.new {out : List Blc} {f : ByteArray → Int} {S : ByteArray → Prop} (h : Gath out f S) {a : ByteArray} (n : Int) (ha : ¬ S a) : Gath (out ++ [⟨a, wrap64 (0 + n)⟩]) (addF f a n) (fun x => S x ∨ x = a) := by
  refine ⟨?_, fun x => ?_, fun b hb => ?_, fun x hx => ?_⟩
  · rw [List.map_append, List.nodup_append]
    refine ⟨h.nd, by simp, fun x hx y hy e => ?_⟩
    simp at hy
    subst hy
    subst e
    exact ha ((h.mem x).1 hx)
  · rw [List.map_append, List.mem_append, h.mem]
    simp
  · rcases List.mem_append.1 hb with hb | hb
    · unfold addF
      have hne : b.acc ≠ a := fun e => ha ((h.mem a).1 (e ▸ List.mem_map.2 ⟨b, hb, rfl⟩))
      rw [if_neg hne]
      exact h.val b hb
    · rw [List.mem_singleton] at hb
      subst hb
      unfold addF
      rw [if_pos rfl, h.none a ha]
  · rw [not_or] at hx
    unfold addF
    rw [if_neg hx.2]
    exact h.none x hx.1
theorem set_acc {out : List Blc} {k : Nat} (hk : k < out.length) (n : Int) : (out.set k ⟨out[k].acc, n⟩).map (·.acc) = out.map (·.acc) := by
  rw [List.map_set]
  apply List.ext_getElem?
  intro i
  rw [List.getElem?_set]
  split
  · rename_i h
    subst h
    simp [hk]
  · rfl
/-- An account that is there. -/
theorem Gath.old {out : List Blc} {f : ByteArray → Int} {S : ByteArray → Prop} (h : Gath out f S) {k : Nat} (hk : k < out.length) (n : Int) : Gath (out.set k ⟨out[k].acc, wrap64 (out[k].amt + n)⟩) (addF f out[k].acc n) (fun x => S x ∨ x = out[k].acc) := by
  have hS : S out[k].acc := (h.mem _).1 (List.mem_map.2 ⟨_, List.getElem_mem hk, rfl⟩)
  refine ⟨by rw [set_acc hk]; exact h.nd, fun x => ?_, fun b hb => ?_, fun x hx => ?_⟩
  · rw [set_acc hk, h.mem]
    exact ⟨Or.inl, fun e => e.elim id fun e => e ▸ hS⟩
  · obtain ⟨i, hi, e⟩ := List.getElem_of_mem hb
    rw [List.length_set] at hi
    rw [List.getElem_set] at e
    unfold addF
    split at e
    · subst e
      rw [if_pos rfl, h.val _ (List.getElem_mem hk)]
    · rename_i hne
      subst e
      have : out[i].acc ≠ out[k].acc := fun e => by
        have := h.nd
        rw [List.nodup_iff_pairwise_ne, List.pairwise_iff_getElem] at this
        rcases Nat.lt_or_gt_of_ne hne with c | c
        · exact this k i (by simpa using hk) (by simpa using hi) c (by simpa using e.symm)
        · exact this i k (by simpa using hi) (by simpa using hk) c (by simpa using e)
      rw [if_neg this]
      exact h.val _ (List.getElem_mem hi)
  · rw [not_or] at hx
    unfold addF
    rw [if_neg hx.2]
    exact h.none x hx.1
theorem Gath.cong {out : List Blc} {f g : ByteArray → Int} {S T : ByteArray → Prop} (h : Gath out f S) (hf : ∀ x, g x = f x) (hs : ∀ x, T x ↔ S x) : Gath out g T :=
  ⟨h.nd, fun x => (h.mem x).trans (hs x).symm, fun b hb => by rw [hf]; exact h.val b hb, fun x hx => by rw [hf]; exact h.none x fun e => hx ((hs x).2 e)⟩
/-- Both sides of a posting. -/
theorem bal_two (ps : List Pst) (p : Pst) (x : ByteArray) : addF (addF (fun x => bal x 0 ps) p.deb p.amt) p.cre (wrap64 (-p.amt)) x = bal x 0 (ps ++ [p]) := by
  have e : bal x 0 (ps ++ [p]) = bal1 x (bal x 0 ps) p := by unfold bal; rw [List.foldl_append]; rfl
  rw [e]
  unfold addF bal1
  have e1 : (p.deb = x) ↔ (x = p.deb) := eq_comm
  have e2 : (p.cre = x) ↔ (x = p.cre) := eq_comm
  simp only [e1, e2]
  by_cases h2 : x = p.cre
  · rw [if_pos h2, if_pos h2]
    by_cases h1 : x = p.deb
    · rw [if_pos h1, wrap_add']; rfl
    · rw [if_neg h1, wrap_add']; rfl
  · rw [if_neg h2, if_neg h2]
theorem accs_two (ps : List Pst) (p : Pst) (x : ByteArray) : x ∈ accs (ps ++ [p]) ↔ ((x ∈ accs ps ∨ x = p.deb) ∨ x = p.cre) := by
  unfold accs
  rw [List.flatMap_append]
  simp [or_assoc]
end Go.Proofs.YtcfgacdcgljbaaaGreatDoor
