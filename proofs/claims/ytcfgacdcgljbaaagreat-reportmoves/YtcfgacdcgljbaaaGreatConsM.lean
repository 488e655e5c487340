/- What an event's line puts or takes, in plain mathematics. No walk. -/
import Derived.Test.YtcfgacdcgljbaaaGreatRowOrd
namespace Go.Proofs.YtcfgacdcgljbaaaGreat
/-- What an event's line puts, or takes. -/
def ctr (e : Ev) (y : Lin) : Int := if e.kind = 1 ∨ e.kind = 2 then y.val else if e.kind = 3 then -y.val else if y.gain then y.val else -y.val
theorem doE_val {k : Nat} {s : Stk} {e : Ev} (h : StkOK k s) (hr : rtK e.kind e.qty e.price e.ofI) :
    sumV (doE s e).1.ys = sumV s.ys + ctr e (doE s e).2 ∧ (doE s e).2.id = e.id ∧ (doE s e).2.val ≤ (k + 1) * 100000000000 ∧ (0 < (doE s e).2.short → (doE s e).1.ys = []) := by
  have hn := sum_nonneg h.ok
  have hv := h.v
  have hq := h.q
  have hp := h.p
  unfold doE ctr
  rcases hr with ⟨e1, a, b, c⟩ | ⟨e1, a, b, c⟩ | ⟨e1, a, b, c⟩ | ⟨e1, a, b, c⟩
  · have m := mul_bound (q := e.qty) (p := e.price) (by omega) a.2 b.1 b.2
    rw [if_pos e1, if_pos (Or.inl e1)]
    refine ⟨?_, rfl, by simp only; omega, fun x => absurd x (Int.lt_irrefl _)⟩
    rw [sumV_append]; simp only [sumV]; omega
  · rw [if_neg (by omega), if_pos e1, if_pos (Or.inr e1)]
    have cs := chg_sum e.ofI e.price s.ys
    split
    · rename_i hh
      rw [if_pos hh] at cs
      exact ⟨cs.2.1, rfl, by simp only; omega, fun x => absurd x (Int.lt_irrefl _)⟩
    · refine ⟨by simp only; omega, rfl, by simp only; omega, fun x => absurd x (Int.lt_irrefl _)⟩
  · rw [if_neg (by omega), if_neg (by omega), if_pos e1, if_neg (by omega), if_pos e1]
    have t := tk_took s.ys e.qty h.ok (by omega)
    have tv := t.val
    have tn := sum_nonneg t.ok
    refine ⟨by simp only; omega, rfl, by simp only; omega, fun x => ?_⟩
    simp only at x ⊢
    rcases Int.lt_or_le (sumQ s.ys) e.qty with c | c
    · exact t.gone (by omega)
    · have := (t.few c).2; omega
  · have n1 : ¬ e.kind = 1 := by omega
    have n2 : ¬ e.kind = 2 := by omega
    have n3 : ¬ e.kind = 3 := by omega
    have n4 : ¬ (e.kind = 1 ∨ e.kind = 2) := by omega
    rw [if_neg n4, if_neg n3]
    by_cases hlt : sumQ s.ys < e.qty
    · have m := mul_bound (q := e.qty - sumQ s.ys) (p := s.price) (by omega) (by omega) hp.1 hp.2
      simp only [n1, n2, n3, hlt, if_false, if_true]
      refine ⟨?_, trivial, by omega, fun x => absurd x (Int.lt_irrefl _)⟩
      rw [sumV_append]; simp only [sumV]; omega
    · have t := tk_took s.ys (sumQ s.ys - e.qty) h.ok (by omega)
      have tv := t.val
      have tn := sum_nonneg t.ok
      simp only [n1, n2, n3, hlt, if_false, Bool.false_eq_true]
      exact ⟨by omega, trivial, by omega, fun x => absurd x (Int.lt_irrefl _)⟩
def csum : List Ev → List Lin → Int
  | e :: es, y :: ys => ctr e y + csum es ys
  | _, _ => 0
end Go.Proofs.YtcfgacdcgljbaaaGreat
