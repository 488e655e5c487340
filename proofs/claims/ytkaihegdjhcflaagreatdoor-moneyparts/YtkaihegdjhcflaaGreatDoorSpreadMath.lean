/- The plain mathematics of what is spread: nothing is lost, nobody gets less than nothing, each gets its share but for less than one. -/
import Derived.Test.YtkaihegdjhcflaaGreatDoorMoneySpread
namespace Go.Proofs.YtkaihegdjhcflaaGreatDoor
theorem div_add_bd (a b S : Int) (hS : 0 < S) : b / S ≤ (a + b) / S - a / S ∧ (a + b) / S - a / S ≤ b / S + 1 := by
  have h1 := Int.mul_ediv_add_emod a S
  have h2 := Int.mul_ediv_add_emod b S
  have r1 := Int.emod_nonneg a (by omega : S ≠ 0)
  have r2 := Int.emod_nonneg b (by omega : S ≠ 0)
  have s1 := Int.emod_lt_of_pos a hS
  have s2 := Int.emod_lt_of_pos b hS
  have e : a + b = (a % S + b % S) + S * (a / S + b / S) := by
    rw [Int.mul_add]; omega
  have e2 : (a + b) / S = (a % S + b % S) / S + (a / S + b / S) := by
    rw [e, Int.add_mul_ediv_left _ _ (by omega)]
  have e3 : 0 ≤ (a % S + b % S) / S := Int.ediv_nonneg (by omega) (by omega)
  have e4 : (a % S + b % S) / S < 2 := Int.ediv_lt_of_lt_mul hS (by omega)
  omega
theorem sprAt_bd (t : Int) (zs : List Int) (k : Nat) (hk : k < zs.length) (hS : 1 ≤ zs.sum) :
    shr t (zs.getD k 0) zs.sum ≤ sprAt t zs k ∧ sprAt t zs k ≤ shr t (zs.getD k 0) zs.sum + 1 ∧ (zs.getD k 0 = 0 → sprAt t zs k = 0) := by
  unfold sprAt upTo
  rw [sum_step zs k hk]
  refine ⟨?_, ?_, fun e => by rw [e]; simp⟩
  · unfold shr; rw [Int.mul_add]; exact (div_add_bd _ _ _ (by omega)).1
  · unfold shr; rw [Int.mul_add]; exact (div_add_bd _ _ _ (by omega)).2
theorem upTo_all (t : Int) (zs : List Int) (hS : 1 ≤ zs.sum) : upTo t zs zs.length = t := by
  unfold upTo; rw [List.take_length]; exact shr_all _ _ (by omega)
theorem upTo_zero (t : Int) (zs : List Int) : upTo t zs 0 = 0 := by simp [upTo, shr_none]
theorem upTo_bd (t : Int) (zs : List Int) (k : Nat) (h : zs.all okw = true) (hS : 1 ≤ zs.sum) (ht : 0 ≤ t) : 0 ≤ upTo t zs k ∧ upTo t zs k ≤ t := by
  have b1 := sum_take_bd zs k h
  exact ⟨shr_nonneg _ _ _ ht b1.1 (by omega), shr_le _ _ _ ht b1.2 (by omega)⟩
theorem okw_at (zs : List Int) (k : Nat) (hk : k < zs.length) (h : zs.all okw = true) : 0 ≤ zs.getD k 0 ∧ zs.getD k 0 ≤ 100000 := by
  rw [← okw_iff]
  simp only [List.all_eq_true] at h
  apply h
  simp only [List.getD, List.getElem?_eq_getElem hk, Option.getD_some]; exact List.getElem_mem hk
theorem at_le_sum (zs : List Int) (k : Nat) (hk : k < zs.length) (h : zs.all okw = true) : zs.getD k 0 ≤ zs.sum := by
  have b1 := sum_take_bd zs k h
  have b2 := sum_take_bd zs (k + 1) h
  rw [sum_step zs k hk] at b2
  omega
end Go.Proofs.YtkaihegdjhcflaaGreatDoor
