/- The plain mathematics of the document's own answer: numerals, and products digit by digit. -/
import Derived.Test.YtapkandekfndoaaGreatDoorAmountMath
import Derived.Lib.ItoaNum
namespace Go.Proofs.YtapkandekfndoaaGreatDoor
theorem decDigits_dig : ∀ (m u : Nat), u ≤ m → ∀ c ∈ Lib.decDigits u, 48 ≤ c.toNat ∧ c.toNat ≤ 57
  | m, u, hm, c, hc => by
    by_cases h : u < 10
    · rw [Lib.decDigits, dif_pos h] at hc
      simp only [List.mem_singleton] at hc
      subst hc
      simp; omega
    · rw [Lib.decDigits, dif_neg h] at hc
      rcases List.mem_append.1 hc with hc | hc
      · match m, hm with
        | 0, hm => omega
        | m + 1, hm => exact decDigits_dig m (u / 10) (by omega) c hc
      · simp only [List.mem_singleton] at hc
        subst hc
        simp; omega
theorem val1_digit (n : Int) (c : UInt8) (h : 48 ≤ c.toNat ∧ c.toNat ≤ 57) : val1 n c = n * 10 + ((c.toNat : Int) - 48) := by
  unfold val1; rw [if_pos (by omega)]
theorem val_decDigits : ∀ (m u : Nat), u ≤ m → val (Lib.decDigits u) = (u : Int)
  | m, u, hm => by
    by_cases h : u < 10
    · rw [Lib.decDigits, dif_pos h]
      have : (UInt8.ofNat (48 + u)).toNat = 48 + u := by simp; omega
      unfold val
      simp only [List.foldl_cons, List.foldl_nil]
      rw [val1_digit _ _ (by omega), this]; omega
    · rw [Lib.decDigits, dif_neg h, val_snoc]
      have : (UInt8.ofNat (48 + u % 10)).toNat = 48 + u % 10 := by simp; omega
      match m, hm with
      | 0, hm => omega
      | m + 1, hm =>
        rw [val_decDigits m (u / 10) (by omega), val1_digit _ _ (by omega), this]; omega
theorem fold_ge : ∀ (l : List UInt8) (x : Int), 0 ≤ x → x ≤ l.foldl val1 x
  | [], x, _ => by simp
  | c :: l, x, h => by
    have h1 : 0 ≤ val1 x c ∧ x ≤ val1 x c := by unfold val1; split <;> omega
    have := fold_ge l (val1 x c) h1.1
    simp only [List.foldl_cons]; omega
theorem val_take_le (l : List UInt8) (k : Nat) : 0 ≤ val (l.take k) ∧ val (l.take k) ≤ val l := by
  have h0 := (val_bd (l.take k).length _ rfl).1
  refine ⟨h0, ?_⟩
  have e : val l = (l.drop k).foldl val1 (val (l.take k)) := by
    unfold val; rw [← List.foldl_append, List.take_append_drop]
  rw [e]; exact fold_ge _ _ h0
theorem digits_ne (u : Nat) : Lib.decDigits u ≠ [] := by
  intro h
  have := Lib.decDigits_length u
  rw [h] at this
  have := Lib.nDigits_pos u
  simp at *; omega
/-- One digit more: the quotient and the remainder of ten times so much and a digit. -/
theorem step_quo (a P d c : Int) (hc : 0 < c) :
    a * P / c * 10 + a * d / c + (a * P % c * 10 + a * d % c) / c = a * (P * 10 + d) / c ∧ (a * P % c * 10 + a * d % c) % c = a * (P * 10 + d) % c := by
  have h1 := Int.mul_ediv_add_emod (a * P) c
  have h2 := Int.mul_ediv_add_emod (a * d) c
  have e : a * (P * 10 + d) = (a * P % c * 10 + a * d % c) + c * (a * P / c * 10 + a * d / c) := by
    rw [Int.mul_add, ← Int.mul_assoc, Int.mul_add, ← Int.mul_assoc]; omega
  rw [e, Int.add_mul_ediv_left _ _ (by omega), Int.add_mul_emod_self_left]
  omega
end Go.Proofs.YtapkandekfndoaaGreatDoor
