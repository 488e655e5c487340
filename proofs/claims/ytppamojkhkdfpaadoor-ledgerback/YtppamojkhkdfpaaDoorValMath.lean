/- The value of a text of digits. No walk. -/
import Derived.Test.YtppamojkhkdfpaaDoorBase
namespace Go.Proofs.YtppamojkhkdfpaaDoor
open Go.RowKit
def val1 (n : Int) (c : UInt8) : Int := if 48 ≤ (c.toNat : Int) ∧ (c.toNat : Int) ≤ 57 then n * 10 + ((c.toNat : Int) - 48) else n
/-- The number that the digits of a text make. -/
def val (l : List UInt8) : Int := l.foldl val1 0
theorem val_snoc (l : List UInt8) (c : UInt8) : val (l ++ [c]) = val1 (val l) c := by simp [val]
/-- The number of a text, below 0 behind a sign. -/
def sval (l : List UInt8) : Int := if l.head? = some 45 then -val l else val l
theorem val1_bd (n : Int) (c : UInt8) (h : 0 ≤ n) : 0 ≤ val1 n c ∧ val1 n c ≤ n * 10 + 9 := by
  unfold val1; split <;> omega
theorem val_bd : ∀ (m : Nat) (l : List UInt8), l.length = m → 0 ≤ val l ∧ val l < 10 ^ m
  | 0, l, h => by
    have : l = [] := List.eq_nil_of_length_eq_zero h
    subst this; simp [val]
  | m + 1, l, h => by
    obtain ⟨l', c, rfl⟩ : ∃ l' c, l = l' ++ [c] := by
      rcases List.eq_nil_or_concat l with rfl | ⟨l', c, rfl⟩
      · simp at h
      · exact ⟨l', c, by simp⟩
    have ih := val_bd m l' (by simpa using h)
    have := val1_bd (val l') c ih.1
    rw [val_snoc, Int.pow_succ]
    omega
theorem take_snoc (s : ByteArray) (k : Nat) (h : k < s.size) : s.data.toList.take (k + 1) = s.data.toList.take k ++ [s[k]] := by
  rw [List.take_succ_eq_append_getElem (by simpa using h)]; rfl
end Go.Proofs.YtppamojkhkdfpaaDoor
