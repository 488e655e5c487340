/- The plain mathematics of amounts as text: what an amount is written as is read as that amount. -/
import Derived.Test.YtppamojkhkdfpaaDoorMoneyParse
namespace Go.Proofs.YtppamojkhkdfpaaDoor
theorem dv_nat : ∀ (k q : Nat), dv k (q : Int) = ((q / 10 ^ k : Nat) : Int)
  | 0, q => by simp [dv]
  | k + 1, q => by
    simp only [dv]
    rw [dv_nat k q, Nat.pow_succ, ← Nat.div_div_eq_div_mul]
    omega
theorem byt_append (a b : List Int) : byt (a ++ b) = byt a ++ byt b := by simp [byt]
theorem byt_cons (a : Int) (b : List Int) : byt (a :: b) = UInt8.ofNat a.toNat :: byt b := rfl
theorem byt_length (a : List Int) : (byt a).length = a.length := by simp [byt]
theorem dig_nat (d : Nat) (h : d < 10) : (UInt8.ofNat (48 + (d : Int)).toNat).toNat = 48 + d := by
  have : (48 + (d : Int)).toNat = 48 + d := by omega
  rw [this]; simp; omega
theorem val1_dig (x : Int) (d : Nat) (h : d < 10) : val1 x (UInt8.ofNat (48 + (d : Int)).toNat) = x * 10 + d := by
  unfold val1; rw [dig_nat d h]; rw [if_pos (by omega)]; omega
theorem fold_dg : ∀ (k q : Nat) (x : Int), (byt (dg k (q : Int))).foldl val1 x = x * 10 ^ k + ((q % 10 ^ k : Nat) : Int)
  | 0, q, x => by simp [dg, byt, Nat.mod_one]
  | k + 1, q, x => by
    have e : 48 + dv k (q : Int) % 10 = 48 + ((q / 10 ^ k % 10 : Nat) : Int) := by rw [dv_nat]; omega
    simp only [dg]
    rw [byt_cons, List.foldl_cons, e, val1_dig x _ (Nat.mod_lt _ (by omega)), fold_dg k q, Nat.mod_pow_succ, Int.pow_succ, Int.add_mul]
    rw [Int.mul_assoc, Int.mul_comm 10 (10 ^ k), Int.add_assoc]
    congr 1
    rw [Int.natCast_add, Int.natCast_mul, Int.natCast_pow, Int.mul_comm, Int.add_comm]
    rfl
theorem wdN_lt : ∀ (m n : Nat), n ≤ m → n < 10 ^ wdN n
  | m, n, h => by
    by_cases hn : n < 10
    · rw [wdN_small n hn]; omega
    · have hm : n / 10 < n := by omega
      match m, h with
      | 0, h => omega
      | m + 1, h =>
        have := wdN_lt m (n / 10) (by omega)
        rw [wdN_big n (by omega), Nat.pow_succ]; omega
theorem val_amtSize (m : Nat) (x : Int) (hx : x = 0) : (byt (amtSize m)).foldl val1 x = (m : Int) := by
  subst hx
  unfold amtSize
  rw [byt_append, List.foldl_append, fold_dg, byt_cons, List.foldl_cons]
  have h46 : ∀ y : Int, val1 y (UInt8.ofNat (46 : Int).toNat) = y := by intro y; simp [val1]
  rw [h46, fold_dg, Nat.mod_eq_of_lt (wdN_lt _ (m / 100) (Nat.le_refl _))]
  have : ((m % 100 % 10 ^ 2 : Nat) : Int) = (m : Int) % 100 := by omega
  rw [this]
  omega
theorem amtSize_head (m : Nat) : ∃ d l, d < 10 ∧ byt (amtSize m) = UInt8.ofNat (48 + ((d : Nat) : Int)).toNat :: l := by
  unfold amtSize
  have hw := wdN_le (m / 100 + 1) (m / 100) (Nat.lt_of_lt_of_le (Nat.lt_pow_self (by omega : 1 < 10)) (Nat.pow_le_pow_right (by omega) (by omega))) (by omega)
  obtain ⟨k, hk⟩ : ∃ k, wdN (m / 100) = k + 1 := ⟨wdN (m / 100) - 1, by omega⟩
  rw [hk]
  refine ⟨(m / 100) / 10 ^ k % 10, byt (dg k ((m / 100 : Nat) : Int) ++ 46 :: dg 2 ((m % 100 : Nat) : Int)), Nat.mod_lt _ (by omega), ?_⟩
  simp only [dg, List.cons_append]
  rw [byt_cons, dv_nat]
  rfl
theorem amtSize_length (m : Nat) : (amtSize m).length = wdN (m / 100) + 3 := by
  simp [amtSize, dg_length]
/-- What an amount is written as is read as that amount. -/
theorem sval_amt (n : Int) : sval (byt (amt n)) = n := by
  unfold amt
  by_cases h : n < 0
  · rw [if_pos h, byt_append]
    have e : byt [45] = [45] := rfl
    rw [e]
    unfold sval
    rw [if_pos (by simp)]
    unfold val
    rw [List.foldl_append]
    have e2 : List.foldl val1 0 [45] = 0 := by simp [val1]
    rw [e2, val_amtSize _ _ rfl]; omega
  · rw [if_neg h, List.nil_append]
    obtain ⟨d, l, hd, hl⟩ := amtSize_head n.natAbs
    unfold sval
    rw [if_neg]
    · unfold val; rw [val_amtSize _ _ rfl]; omega
    · rw [hl]
      simp only [List.head?_cons, Option.some.injEq]
      intro e
      have := dig_nat d hd
      rw [e] at this
      have h45 : (45 : UInt8).toNat = 45 := rfl
      omega
theorem amt_length (n : Int) (h0 : -1000000000000 ≤ n) (h1 : n ≤ 1000000000000) : (byt (amt n)).length ≤ 15 := by
  rw [byt_length]
  unfold amt
  rw [List.length_append, amtSize_length]
  have := wdN_le 11 (n.natAbs / 100) (by omega) (by omega)
  split <;> simp <;> omega
theorem parsed_amt (n : Int) (h0 : -1000000000000 ≤ n) (h1 : n ≤ 1000000000000) : parsed (byt (amt n)) = some n := by
  unfold parsed
  rw [sval_amt, if_pos ⟨amt_length n h0 h1, h0, h1, rfl⟩]
end Go.Proofs.YtppamojkhkdfpaaDoor
