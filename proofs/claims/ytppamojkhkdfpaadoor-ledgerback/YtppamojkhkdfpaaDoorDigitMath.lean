/- The plain mathematics of decimal digits: no word of the program. -/
import Derived.Lib.ItoaNum
namespace Go.Proofs.YtppamojkhkdfpaaDoor
/-- A number without its last k digits. -/
def dv : Nat → Int → Int
  | 0, n => n
  | k + 1, n => dv k n / 10
/-- The last k digits of a number, as the bytes that they are written in. -/
def dg : Nat → Int → List Int
  | 0, _ => []
  | k + 1, n => (48 + dv k n % 10) :: dg k n
theorem dg_length : ∀ (k : Nat) (n : Int), (dg k n).length = k
  | 0, _ => rfl
  | k + 1, n => by simp [dg, dg_length k n]
theorem dv_bd : ∀ (k : Nat) (n : Int), 0 ≤ n → 0 ≤ dv k n ∧ dv k n ≤ n
  | 0, n, h => ⟨h, Int.le_refl _⟩
  | k + 1, n, h => by have := dv_bd k n h; simp only [dv]; omega
/-- How many digits a number has. -/
def wdN (n : Nat) : Nat := Lib.nDigits n
theorem replicate_set {α : Type} (m : Nat) (z x : α) (l : List α) : (List.replicate (m + 1) z ++ l).set m x = List.replicate m z ++ x :: l := by
  induction m with
  | zero => simp [List.replicate]
  | succ m ih =>
    rw [List.replicate_succ, List.cons_append, List.set_cons_succ, ih]
    simp [List.replicate_succ]
end Go.Proofs.YtppamojkhkdfpaaDoor
