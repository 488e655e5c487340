/- What the last event of all comes to; three blocks of two cells written. -/
import Derived.Test.YtmldaiofghpfdaaKpEmptK
namespace Go.Proofs.Ytmldaiofghpfdaa.costEmpties
open Go.Proofs.Ytmldaiofghpfdaa
open Go.RowKit Go.Shelf Go.Maps
theorem last_line {L : List Ev} {e : Ev} {M : Stks} {ls : List Lin} (hr : ∀ y ∈ L, Rt y) (he : Rt e) (hd : ∀ y ∈ L, y.day < e.day) (hM : M = goS stk00 (ordd L)) (hls : ls = goL stk00 (ordd L)) :
    goS stk00 (ordd (L ++ [e])) = upd M e.item (doE (M e.item) e).1 ∧ goL stk00 (ordd (L ++ [e])) = ls ++ [(doE (M e.item) e).2] := by
  rw [ordd_last hr he hd, goS_append, goL_append, ← hM, ← hls]
  exact ⟨rfl, rfl⟩
/-- Two cells of a block written. -/
def set2 (w : World) (g : Nat) (a b : Value) : World := (w.setCell ⟨g, 0, none⟩ a).setCell ⟨g, 1, none⟩ b
theorem set2_other (w : World) {g k : Nat} (a b : Value) (h : k ≠ g) : (set2 w g a b).heap[k]? = w.heap[k]? := by
  unfold set2
  rw [Below.heap_setCell _ _ _ _ (by show k ≠ g; exact h), Below.heap_setCell _ _ _ _ (by show k ≠ g; exact h)]
theorem set2_self (w : World) {g : Nat} {T : TypeId} {p q : Value} (a b : Value) (h : w.heap[g]? = some (.cells #[p, q] T)) : (set2 w g a b).heap[g]? = some (.cells #[a, b] T) := by
  unfold set2
  simp [World.setCell, Array.getElem?_modify, h]
theorem set2_size (w : World) (g : Nat) (a b : Value) : (set2 w g a b).heap.size = w.heap.size := by
  unfold set2
  simp [World.setCell]
theorem set2_oth (w : World) (g : Nat) (a b : Value) : (set2 w g a b).os = w.os ∧ (set2 w g a b).tape = w.tape ∧ (set2 w g a b).output = w.output := by
  unfold set2
  exact ⟨rfl, rfl, rfl⟩
/-- Three blocks of two cells written, one behind the other. -/
theorem three_set {wz : World} {g0 g1 g2 : Nat} {T : TypeId} {p q : Value} (a0 b0 a1 b1 a2 b2 : Value) (hh0 : wz.heap[g0]? = some (.cells #[p, q] T)) (hh1 : wz.heap[g1]? = some (.cells #[p, q] T)) (hh2 : wz.heap[g2]? = some (.cells #[p, q] T)) (n01 : g0 ≠ g1) (n02 : g0 ≠ g2) (n12 : g1 ≠ g2) :
    ∃ W1 W2 W3 : World, W1 = set2 wz g0 a0 b0 ∧ W2 = set2 W1 g1 a1 b1 ∧ W3 = set2 W2 g2 a2 b2
      ∧ W1.heap[g1]? = some (.cells #[p, q] T) ∧ W2.heap[g2]? = some (.cells #[p, q] T)
      ∧ (W3.heap[g0]? = some (.cells #[a0, b0] T) ∧ W3.heap[g1]? = some (.cells #[a1, b1] T) ∧ W3.heap[g2]? = some (.cells #[a2, b2] T))
      ∧ (∀ t, t ≠ g0 → t ≠ g1 → t ≠ g2 → W3.heap[t]? = wz.heap[t]?)
      ∧ W3.heap.size = wz.heap.size ∧ (W3.os = wz.os ∧ W3.tape = wz.tape ∧ W3.output = wz.output)
      ∧ (∀ n, n ≤ g0 → Upto n wz W1) ∧ (∀ n, n ≤ g1 → Upto n W1 W2) ∧ (∀ n, n ≤ g2 → Upto n W2 W3) := by
  refine ⟨_, _, _, rfl, rfl, rfl, ?_, ?_, ⟨?_, ?_, ?_⟩, fun t a b c => ?_, ?_, ?_, fun n hn t ht => ?_, fun n hn t ht => ?_, fun n hn t ht => ?_⟩
  · rw [set2_other _ _ _ (fun e => n01 e.symm)]; exact hh1
  · rw [set2_other _ _ _ (fun e => n12 e.symm), set2_other _ _ _ (fun e => n02 e.symm)]; exact hh2
  · rw [set2_other _ _ _ n02, set2_other _ _ _ n01]; exact set2_self _ _ _ hh0
  · rw [set2_other _ _ _ n12]; exact set2_self _ _ _ (by rw [set2_other _ _ _ (fun e => n01 e.symm)]; exact hh1)
  · exact set2_self _ _ _ (by rw [set2_other _ _ _ (fun e => n12 e.symm), set2_other _ _ _ (fun e => n02 e.symm)]; exact hh2)
  · rw [set2_other _ _ _ c, set2_other _ _ _ b, set2_other _ _ _ a]
  · rw [set2_size, set2_size, set2_size]
  · rw [(set2_oth _ _ _ _).1, (set2_oth _ _ _ _).1, (set2_oth _ _ _ _).1, (set2_oth _ _ _ _).2.1, (set2_oth _ _ _ _).2.1, (set2_oth _ _ _ _).2.1, (set2_oth _ _ _ _).2.2, (set2_oth _ _ _ _).2.2, (set2_oth _ _ _ _).2.2]
    exact ⟨rfl, rfl, rfl⟩
  · exact set2_other _ _ _ (by omega)
  · exact set2_other _ _ _ (by omega)
  · exact set2_other _ _ _ (by omega)
theorem keep3 {F : Nat → Nat → Prop} {g0 g1 g2 : Nat} {wz W : World} (dis : ∀ q q' k, q ≠ q' → F q k → ¬ F q' k) (hF0 : F 7 g0) (hF1 : F 8 g1) (hF2 : F 9 g2) (hk : ∀ t, t ≠ g0 → t ≠ g1 → t ≠ g2 → W.heap[t]? = wz.heap[t]?) (j : Nat) (hj : j < 3) : ∀ t, F j t → W.heap[t]? = wz.heap[t]? := fun t hF =>
  hk t (fun e => dis j 7 t (by omega) hF (by rw [e]; exact hF0)) (fun e => dis j 8 t (by omega) hF (by rw [e]; exact hF1)) (fun e => dis j 9 t (by omega) hF (by rw [e]; exact hF2))
theorem below3 {n : Nat} {w10 w11 wz W1 W2 W3 : World} (hb : Below n w10 w11) (hup : Upto n w11 wz) (hoth : wz.os = w11.os ∧ wz.tape = w11.tape ∧ wz.output = w11.output) (o3 : W3.os = wz.os ∧ W3.tape = wz.tape ∧ W3.output = wz.output) (hs : w10.heap.size ≤ W3.heap.size) (u1 : Upto n wz W1) (u2 : Upto n W1 W2) (u3 : Upto n W2 W3) : Below n w10 W3 := by
  refine ⟨(o3.1.trans hoth.1).trans hb.os, (o3.2.1.trans hoth.2.1).trans hb.tape, (o3.2.2.trans hoth.2.2).trans hb.output, hs, fun t ht => ?_⟩
  rw [u3 t ht, u2 t ht, u1 t ht, hup t ht]
  exact hb.block t ht
theorem heap_some_lt {w : World} {g : Nat} {o : Obj} (h : w.heap[g]? = some o) : g < w.heap.size := by
  rcases Nat.lt_or_ge g w.heap.size with c | c
  · exact c
  · rw [Array.getElem?_eq_none c] at h; cases h
theorem cell_of {w : World} {g : Nat} {T : TypeId} {p q : Value} (h : w.heap[g]? = some (.cells #[p, q] T)) : w.cell? ⟨g, 0, none⟩ = some p ∧ w.cell? ⟨g, 1, none⟩ = some q ∧ w.frozen? ⟨g, 0, none⟩ = false ∧ w.frozen? ⟨g, 1, none⟩ = false := by
  simp [World.cell?, World.frozen?, h]
theorem res_at {lo m : Nat} {W : World} {u : Value} {M : Stks} {ls : List Lin} (h : ResAt lo W (.agg #[u, .map (some m)]) M ls) : ∃ n D V, RunRes lo W m n D V M u ls := by
  obtain ⟨u', m', n, D, V, hv, _, _, rr⟩ := h
  simp only [Value.agg.injEq] at hv
  have h' := congrArg Array.toList hv
  simp at h'
  obtain ⟨rfl, rfl⟩ := h'
  exact ⟨n, D, V, rr⟩
theorem line_at {lo m n k cu : Nat} {W : World} {D : DataW Value} {V : ByteArray → Value} {ad : Option Addr} {M : Stks} {ls : List Lin} {y : Lin} (h : RunRes lo W m n D V M (.slice ad (k + 1) cu) (ls ++ [y])) (hk : ls.length = k) :
    ∃ g, ad = some ⟨g, 0, none⟩ ∧ ∀ t u, t < 5 → (linC y)[t]? = some u → W.cell? ⟨g, k * 5 + t, none⟩ = some u := by
  subst hk
  have ho := h.own
  rcases own_form ho with ⟨hv, _, _⟩ | ⟨g, c, hv, _, _, _⟩
  · cases hv
  · have hv' := hv
    simp only [Value.slice.injEq] at hv
    obtain ⟨rfl, _, rfl⟩ := hv
    refine ⟨g, rfl, fun t u ht hu => ?_⟩
    rw [hv'] at ho
    have := (own_cell linC_len ho ls.length t (by simp) ht).1
    rw [this, List.getElem_append_right (Nat.le_refl _)]
    simpa using hu
end Go.Proofs.Ytmldaiofghpfdaa.costEmpties
