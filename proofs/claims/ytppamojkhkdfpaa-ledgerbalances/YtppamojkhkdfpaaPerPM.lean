/- The walks of period.Plus, period.Minus. -/
import Derived.Test.YtppamojkhkdfpaaPerFigM
namespace Go.Proofs.Ytppamojkhkdfpaa
open Go.RowKit
theorem below3a (w : World) (o o' o'' : Obj) : Below w.heap.size w (((w.alloc o).alloc o').alloc o'') := (((Below.refl _ _).alloc (Nat.le_refl _) o).alloc (by simp) o').alloc (by simp; omega) o''
theorem below_set5 {n g : Nat} {w W : World} (h : Below n w W) (hg : n ≤ g) (a b c d e : Value) : Below n w (((((W.setCell ⟨g, 0, none⟩ a).setCell ⟨g, 1, none⟩ b).setCell ⟨g, 2, none⟩ c).setCell ⟨g, 3, none⟩ d).setCell ⟨g, 4, none⟩ e) :=
  ((((h.setCell hg a).setCell hg b).setCell hg c).setCell hg d).setCell hg e
set_option maxHeartbeats 2000000 in
theorem plus_any (a b : Fig) (w : World) : Calls Try.prog 11 #[figV a, figV b] w fun r w' => r = .returned (figV (a.plus b)) ∧ Below w.heap.size w w' := by
  obtain ⟨a1, a2, a3, a4, a5⟩ := a
  obtain ⟨b1, b2, b3, b4, b5⟩ := b
  unfold figV Fig.plus
  simp only
  go_enter Try.func11, Try.ntmps11
  go_wp2
  refine bodyPost_ret (v := .agg #[.int .i64 (wrap64 (a1 + b1)), .int .i64 (wrap64 (a2 + b2)), .int .i64 (wrap64 (a3 + b3)), .int .i64 (wrap64 (a4 + b4)), .int .i64 (wrap64 (a5 + b5))]) (by simp [results, Try.results11, go_sem]) rfl ⟨rfl, ?_⟩
  exact below3a _ _ _ _
set_option maxHeartbeats 2000000 in
theorem minus_any (a b : Fig) (w : World) : Calls Try.prog 12 #[figV a, figV b] w fun r w' => r = .returned (figV (a.minus b)) ∧ Below w.heap.size w w' := by
  obtain ⟨a1, a2, a3, a4, a5⟩ := a
  obtain ⟨b1, b2, b3, b4, b5⟩ := b
  unfold figV Fig.minus
  simp only
  go_enter Try.func12, Try.ntmps12
  go_wp2
  refine bodyPost_ret (v := .agg #[.int .i64 (wrap64 (a1 - b1)), .int .i64 (wrap64 (a2 - b2)), .int .i64 (wrap64 (a3 - b3)), .int .i64 (wrap64 (a4 - b4)), .int .i64 (wrap64 (a5 - b5))]) (by simp [results, Try.results12, go_sem]) rfl ⟨rfl, below3a _ _ _ _⟩
end Go.Proofs.Ytppamojkhkdfpaa
