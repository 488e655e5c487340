/- The plain mathematics of package money's shares: no word of the program. -/
namespace Go.Proofs.Ytmldaiofghpfdaa
/-- What part of a total goes with some of a whole. -/
def shr (t s w : Int) : Int := t * s / w
theorem shr_split (t s w : Int) (hw : 0 < w) : t / w * s + t % w * s / w = shr t s w := by
  unfold shr
  have e : t * s = t % w * s + w * (t / w * s) := by
    have h := Int.mul_ediv_add_emod t w
    calc t * s = (w * (t / w) + t % w) * s := by rw [h]
      _ = t % w * s + w * (t / w * s) := by rw [Int.add_mul, Int.mul_assoc, Int.add_comm]
  rw [e, Int.add_mul_ediv_left _ _ (by omega), Int.add_comm]
theorem shr_nonneg (t s w : Int) (ht : 0 ≤ t) (hs : 0 ≤ s) (hw : 0 < w) : 0 ≤ shr t s w :=
  Int.ediv_nonneg (Int.mul_nonneg ht hs) (Int.le_of_lt hw)
theorem shr_mono (t a b w : Int) (ht : 0 ≤ t) (hab : a ≤ b) (hw : 0 < w) : shr t a w ≤ shr t b w :=
  Int.ediv_le_ediv hw (Int.mul_le_mul_of_nonneg_left hab ht)
theorem shr_all (t w : Int) (hw : 0 < w) : shr t w w = t := Int.mul_ediv_cancel _ (by omega)
theorem shr_none (t w : Int) : shr t 0 w = 0 := by simp [shr]
theorem shr_le (t s w : Int) (ht : 0 ≤ t) (hs : s ≤ w) (hw : 0 < w) : shr t s w ≤ t := by
  have := shr_mono t s w w ht hs hw; rwa [shr_all t w hw] at this
/-- Bounds on the two products of the code. -/
theorem quo_bd (t s w : Int) (ht : 0 ≤ t) (hs : 0 ≤ s) (hsw : s ≤ w) (hw : 0 < w) : 0 ≤ t / w * s ∧ t / w * s ≤ t := by
  have h0 : 0 ≤ t / w := Int.ediv_nonneg ht (by omega)
  refine ⟨Int.mul_nonneg h0 hs, Int.le_trans (Int.mul_le_mul_of_nonneg_left hsw h0) ?_⟩
  exact Int.ediv_mul_le t (by omega)
theorem rem_bd (t s w B : Int) (hs : 0 ≤ s) (hsw : s ≤ w) (hw : 0 < w) (hB : w ≤ B) : 0 ≤ t % w * s ∧ t % w * s ≤ B * B ∧ 0 ≤ t % w * s / w ∧ t % w * s / w ≤ B := by
  have h0 : 0 ≤ t % w := Int.emod_nonneg t (by omega)
  have h1 : t % w < w := Int.emod_lt_of_pos t hw
  have a0 : 0 ≤ t % w * s := Int.mul_nonneg h0 hs
  have a1 : t % w * s ≤ w * w := Int.mul_le_mul (by omega) hsw hs (by omega)
  have a2 : w * w ≤ B * B := Int.mul_le_mul hB hB (by omega) (by omega)
  refine ⟨a0, by omega, Int.ediv_nonneg a0 (by omega), ?_⟩
  have : t % w * s / w ≤ w * w / w := Int.ediv_le_ediv hw a1
  rw [Int.mul_ediv_cancel _ (by omega)] at this
  omega
end Go.Proofs.Ytmldaiofghpfdaa
