/- Texts of postings and their lines, in plain mathematics. -/
import Derived.Test.YtppamojkhkdfpaaDoorLedLines
import Derived.Test.YtppamojkhkdfpaaDoorLedReadM
import Derived.Test.YtppamojkhkdfpaaDoorLedSmall
namespace Go.Proofs.YtppamojkhkdfpaaDoor
open Go.RowKit
theorem lines_join : ∀ s : List UInt8, (linesL s).flatten = s
  | [] => rfl
  | b :: s => by
    have ih := lines_join s
    unfold linesL
    split
    · rename_i h; simp [ih, h]
    · split
      · rename_i h; rw [h] at ih; simp at ih; simp [ih]
      · rename_i y ys h; rw [h] at ih; simp at ih; simp [ih]
theorem print_of_lines {s : List UInt8} {ps : List Pst} (h : linesL s = ps.map pline) : printL ps = s := by
  rw [← lines_join s, h]
  unfold printL
  rw [List.flatMap_def]
theorem acc_no10 {x : ByteArray} (h : x ∈ accL) : (10 : UInt8) ∉ x.data.toList := by
  simp only [accL, List.mem_cons, List.not_mem_nil, or_false] at h
  rcases h with rfl | rfl | rfl | rfl | rfl | rfl <;> decide
theorem tline_no10 {p : Pst} (h : Vp p) : (10 : UInt8) ∉ tline p := by
  unfold tline
  simp only [List.mem_append, List.mem_cons, not_or]
  exact ⟨amt_no _ 10 (by decide), by decide, acc_no10 h.d, by decide, by decide, by decide, acc_no10 h.c⟩
theorem lines_print : ∀ ps : List Pst, (∀ p ∈ ps, Vp p) → linesL (printL ps) = ps.map pline
  | [], _ => rfl
  | p :: ps, h => by
    have ih := lines_print ps (fun q hq => h q (List.mem_cons_of_mem _ hq))
    have e : printL (p :: ps) = tline p ++ 10 :: printL ps := by
      show pline p ++ printL ps = _
      rw [pline_t]; simp
    rw [e, lines_hit _ _ (tline_no10 (h p List.mem_cons_self)), ih, List.map_cons, pline_t]
theorem map_pline_inj : ∀ {ps qs : List Pst}, (∀ p ∈ ps, Vp p) → (∀ p ∈ qs, Vp p) → ps.map pline = qs.map pline → ps = qs
  | [], [], _, _, _ => rfl
  | [], _ :: _, _, _, h => by simp at h
  | _ :: _, [], _, _, h => by simp at h
  | p :: ps, q :: qs, h1, h2, h => by
    simp only [List.map_cons, List.cons.injEq] at h
    rw [pline_inj (h1 p List.mem_cons_self) (h2 q List.mem_cons_self) h.1, map_pline_inj (fun x hx => h1 x (List.mem_cons_of_mem _ hx)) (fun x hx => h2 x (List.mem_cons_of_mem _ hx)) h.2]
theorem fives_acc (f : Fig) : ∀ p ∈ fives f, p.deb ∈ accL ∧ p.cre ∈ accL ∧ p.deb ≠ p.cre := by
  intro p hp
  simp only [fives, List.mem_cons, List.not_mem_nil, or_false] at hp
  rcases hp with rfl | rfl | rfl | rfl | rfl
  all_goals exact ⟨by simp [accL], by simp [accL], by dsimp only; decide⟩
theorem postL_vp (f : Fig) (h : f.bd) : ∀ p ∈ postL f, Vp p := by
  intro p hp
  have hb := (bd_iff f).1 h
  unfold postL at hp
  rw [List.mem_flatMap] at hp
  obtain ⟨q, hq, hp⟩ := hp
  obtain ⟨a1, a2, a3⟩ := fives_acc f q hq
  have hbn : bnd q.amt := by
    simp only [fives, List.mem_cons, List.not_mem_nil, or_false] at hq
    rcases hq with rfl | rfl | rfl | rfl | rfl
    all_goals exact hb _ (by simp)
  unfold bnd at hbn
  unfold post1 at hp
  split at hp
  · simp only [List.mem_singleton] at hp; subst hp; exact ⟨by omega, by omega, a1, a2, a3⟩
  · split at hp
    · simp only [List.mem_singleton] at hp; subst hp
      have e : wrap64 (-q.amt) = -q.amt := wrap_same (by unfold I64; omega)
      exact ⟨by show 1 ≤ wrap64 (-q.amt); omega, by show wrap64 (-q.amt) ≤ _; omega, a2, a1, fun e => a3 e.symm⟩
    · cases hp
theorem vp_ok {p : Pst} (h : Vp p) : I64 p.amt ∧ p.deb.size ≤ 1000 ∧ p.cre.size ≤ 1000 := ⟨by have := h.a1; have := h.a2; unfold I64; omega, (accL_sz h.d).1, (accL_sz h.c).1⟩
end Go.Proofs.YtppamojkhkdfpaaDoor
