/- The plain mathematics of amounts as the document's own answer writes and reads them. -/
import Derived.Test.YtapkandekfndoaaGreatDoorRefMath
import Derived.Lib.Replace
import Derived.Lib.AtoiAll
namespace Go.Proofs.YtapkandekfndoaaGreatDoor
theorem wdN_nDigits (u : Nat) : wdN u = Lib.nDigits u := rfl
theorem byt_dg : ∀ (k q : Nat), byt (dg k (q : Int)) = (List.range k).map fun t => Lib.dg q (k - 1 - t)
  | 0, q => rfl
  | k + 1, q => by
    have e : 48 + dv k (q : Int) % 10 = ((48 + q / 10 ^ k % 10 : Nat) : Int) := by rw [dv_nat]; omega
    simp only [dg]
    rw [byt_cons, byt_dg k q, List.range_succ_eq_map, List.map_cons, List.map_map, e]
    congr 1
    apply List.map_congr_left
    intro t ht
    simp only [Function.comp]
    have : k + 1 - 1 - (t + 1) = k - 1 - t := by omega
    rw [this]
theorem byt_digits (q : Nat) : byt (dg (wdN q) (q : Int)) = Lib.decDigits q := by
  rw [byt_dg, Lib.decDigits_eq, wdN_nDigits q]
/-- Noughts ahead, till there are three signs. -/
def pad3 (l : List UInt8) : List UInt8 := List.replicate (3 - l.length) 48 ++ l
theorem pad3_step (l : List UInt8) (h : l.length < 3) : pad3 (48 :: l) = pad3 l := by
  unfold pad3
  obtain ⟨k, hk⟩ : ∃ k, 3 - l.length = k + 1 := ⟨3 - l.length - 1, by omega⟩
  have hk' : 3 - (48 :: l).length = k := by simp; omega
  rw [hk, hk', List.replicate_succ']
  simp
theorem pad3_long (l : List UInt8) (h : 3 ≤ l.length) : pad3 l = l := by
  unfold pad3; rw [show 3 - l.length = 0 by omega]; rfl
theorem dec2 (u : Nat) (h : u < 100) : byt (dg 2 (u : Int)) = [UInt8.ofNat (48 + u / 10), UInt8.ofNat (48 + u % 10)] := by
  rw [byt_dg]
  have e1 : u / 10 % 10 = u / 10 := by omega
  simp [List.range_succ, Lib.dg, e1]
theorem pad3_dec (u : Nat) : pad3 (Lib.decDigits u) = Lib.decDigits (u / 100) ++ byt (dg 2 ((u % 100 : Nat) : Int)) := by
  rw [dec2 _ (Nat.mod_lt _ (by omega))]
  by_cases h1 : u < 10
  · rw [Lib.decDigits_one h1, show u / 100 = 0 by omega, Lib.decDigits_one (by omega : 0 < 10)]
    rw [show u % 100 = u by omega, show u / 10 = 0 by omega, show u % 10 = u by omega]
    rfl
  · by_cases h2 : u < 100
    · rw [Lib.decDigits_two h1 h2, show u / 100 = 0 by omega, Lib.decDigits_one (by omega : 0 < 10), show u % 100 = u by omega]
      rfl
    · have e1 : Lib.decDigits u = Lib.decDigits (u / 10) ++ [UInt8.ofNat (48 + u % 10)] := by
        rw [Lib.decDigits, dif_neg (by omega)]
      have e2 : Lib.decDigits (u / 10) = Lib.decDigits (u / 100) ++ [UInt8.ofNat (48 + u / 10 % 10)] := by
        rw [Lib.decDigits, dif_neg (by omega), Nat.div_div_eq_div_mul]
      have hp := Lib.nDigits_pos (u / 100)
      rw [pad3_long]
      · rw [e1, e2, show u % 100 / 10 = u / 10 % 10 by omega, show u % 100 % 10 = u % 10 by omega]; simp
      · rw [e1, e2]; simp [Lib.decDigits_length]; omega
/-- What stands ahead of the last two signs, a point, and those. -/
theorem amount_is (n : Int) : byt (amt n) = (if n < 0 then [45] else []) ++ (pad3 (Lib.decDigits n.natAbs)).take ((pad3 (Lib.decDigits n.natAbs)).length - 2) ++ [46] ++ (pad3 (Lib.decDigits n.natAbs)).drop ((pad3 (Lib.decDigits n.natAbs)).length - 2) := by
  have hl : (byt (dg 2 ((n.natAbs % 100 : Nat) : Int))).length = 2 := by rw [byt_length, dg_length]
  rw [pad3_dec]
  have e : (Lib.decDigits (n.natAbs / 100) ++ byt (dg 2 ((n.natAbs % 100 : Nat) : Int))).length - 2 = (Lib.decDigits (n.natAbs / 100)).length := by
    rw [List.length_append, hl]; omega
  rw [e, List.take_left', List.drop_left' rfl]
  · unfold amt amtSize
    rw [byt_append, byt_append, byt_cons, byt_digits]
    have e0 : byt (if n < 0 then [45] else []) = if n < 0 then [45] else [] := by split <;> rfl
    rw [e0]
    simp
  · rfl
end Go.Proofs.YtapkandekfndoaaGreatDoor
