/- All orders of the operations of tallymankeep.CostEmpties that make three results at once. -/
import Derived.Test.YtmldaiofghpfdaaKpEmptJ
namespace Go.Proofs.Ytmldaiofghpfdaa.costEmpties
open Go.Proofs.Ytmldaiofghpfdaa
open Go.RowKit Go.Shelf Go.Maps
def mkL (p : Nat) (f : List Bool) : Array Bool := #[true, decide (0 < p), true, f.getD 0 true, decide (1 < p), decide (2 < p), true, decide (3 < p), true, f.getD 1 true, decide (4 < p), decide (5 < p), true, decide (6 < p), true, f.getD 2 true, decide (7 < p), decide (8 < p), f.getD 3 true, f.getD 4 true, f.getD 5 true, false, false, false]
def two : List Bool := [false, true]
def allF : List (List Bool) := two.flatMap fun a => two.flatMap fun b => two.flatMap fun c => two.flatMap fun d => two.flatMap fun e => two.map fun g => [a, b, c, d, e, g]
def chainI (p : Nat) : Nat := 1 + 6 * (p / 3) + (if p % 3 = 0 then 0 else if p % 3 = 1 then 3 else 4)
def okI (p : Nat) (f : List Bool) (i : Nat) : Bool :=
  (decide (p < 9) && decide (i = chainI p) && (decide (p % 3 ≠ 1) || f.getD (p / 3) true)) || (decide (i = 3) && !f.getD 0 true) || (decide (i = 9) && !f.getD 1 true) || (decide (i = 15) && !f.getD 2 true) || (decide (i = 18) && !f.getD 3 true) || (decide (i = 19) && !f.getD 4 true) || (decide (i = 20) && !f.getD 5 true)
def chk1 (ops : Array Oper) (p : Nat) (f : List Bool) : Bool :=
  if (decide (p = 9) && f.all id) = true then keepB .any ops [(false, 21), (false, 22), (false, 23)] (mkL p f)
  else !(Region.ready .any ops (mkL p f)).isEmpty && (Region.ready .any ops (mkL p f)).all (okI p f)
def okF (p : Nat) (f : List Bool) : Bool := (decide (p ≤ 1) || f.getD 0 true) && (decide (p ≤ 4) || f.getD 1 true) && (decide (p ≤ 7) || f.getD 2 true)
def chk (ops : Array Oper) : Bool := (List.range 10).all fun p => allF.all fun f => !okF p f || chk1 ops p f
theorem list6 {f : List Bool} (h : f.length = 6) : ∃ b0 b1 b2 b3 b4 b5, f = [b0, b1, b2, b3, b4, b5] := by
  match f, h with
  | [b0, b1, b2, b3, b4, b5], _ => exact ⟨b0, b1, b2, b3, b4, b5, rfl⟩
theorem mem_allF {f : List Bool} (h : f.length = 6) : f ∈ allF := by
  obtain ⟨b0, b1, b2, b3, b4, b5, rfl⟩ := list6 h
  revert b0 b1 b2 b3 b4 b5
  decide
theorem chk_at {ops : Array Oper} (h : chk ops = true) {p : Nat} (hp : p ≤ 9) {f : List Bool} (hf : f.length = 6) (ho : okF p f = true) : chk1 ops p f = true := by
  unfold chk at h
  rw [List.all_eq_true] at h
  have h1 := h p (List.mem_range.2 (by omega))
  rw [List.all_eq_true] at h1
  have h2 := h1 f (mem_allF hf)
  rw [ho] at h2
  simpa using h2
theorem set_chain {p : Nat} {f : List Bool} (hp : p < 9) : (mkL p f).setIfInBounds (chainI p) true = mkL (p + 1) f := by
  have : p = 0 ∨ p = 1 ∨ p = 2 ∨ p = 3 ∨ p = 4 ∨ p = 5 ∨ p = 6 ∨ p = 7 ∨ p = 8 := by omega
  rcases this with rfl | rfl | rfl | rfl | rfl | rfl | rfl | rfl | rfl <;> rfl
theorem set_bld {p j : Nat} {f : List Bool} (hf : f.length = 6) (hj : j < 3) : (mkL p f).setIfInBounds (3 + 6 * j) true = mkL p (f.set j true) := by
  obtain ⟨b0, b1, b2, b3, b4, b5, rfl⟩ := list6 hf
  have : j = 0 ∨ j = 1 ∨ j = 2 := by omega
  rcases this with rfl | rfl | rfl <;> rfl
theorem set_box {p j : Nat} {f : List Bool} (hf : f.length = 6) (hj : j < 3) : (mkL p f).setIfInBounds (18 + j) true = mkL p (f.set (3 + j) true) := by
  obtain ⟨b0, b1, b2, b3, b4, b5, rfl⟩ := list6 hf
  have : j = 0 ∨ j = 1 ∨ j = 2 := by omega
  rcases this with rfl | rfl | rfl <;> rfl
theorem okF_set {p : Nat} {f : List Bool} (h : okF p f = true) (hf : f.length = 6) (j : Nat) : okF p (f.set j true) = true := by
  obtain ⟨b0, b1, b2, b3, b4, b5, rfl⟩ := list6 hf
  unfold okF at *
  simp only [Bool.and_eq_true, Bool.or_eq_true] at h ⊢
  have key : ∀ i, i < 6 → [b0, b1, b2, b3, b4, b5].getD i true = true → ([b0, b1, b2, b3, b4, b5].set j true).getD i true = true := fun i hi hx => by
    rw [List.getD_eq_getElem?_getD] at hx ⊢
    by_cases e : j = i
    · subst e; rw [List.getElem?_set_self (by simpa using hi)]; rfl
    · rw [List.getElem?_set_ne e]; exact hx
  exact ⟨⟨h.1.1.imp id (key 0 (by omega)), h.1.2.imp id (key 1 (by omega))⟩, h.2.imp id (key 2 (by omega))⟩
theorem okF_up {p : Nat} {f : List Bool} (h : okF p f = true) (hx : ¬p % 3 = 1 ∨ f.getD (p / 3) true = true) : okF (p + 1) f = true := by
  unfold okF at *
  simp only [Bool.and_eq_true, Bool.or_eq_true, decide_eq_true_eq] at h ⊢
  refine ⟨⟨?_, ?_⟩, ?_⟩
  · rcases h.1.1 with x | x
    · by_cases e : p = 1
      · subst e; rcases hx with y | y
        · exact absurd rfl y
        · exact Or.inr y
      · exact Or.inl (by omega)
    · exact Or.inr x
  · rcases h.1.2 with x | x
    · by_cases e : p = 4
      · subst e; rcases hx with y | y
        · exact absurd rfl y
        · exact Or.inr y
      · exact Or.inl (by omega)
    · exact Or.inr x
  · rcases h.2 with x | x
    · by_cases e : p = 7
      · subst e; rcases hx with y | y
        · exact absurd rfl y
        · exact Or.inr y
      · exact Or.inl (by omega)
    · exact Or.inr x
section
variable (es : Nat → Ev) (L : List Ev) (lv : Value) (B : Nat) (w0 : World)
def JJ (a0 : Act) (listed : Array Bool) (a : Act) (w : World) : Prop := ∃ p f F val, p ≤ 9 ∧ f.length = 6 ∧ okF p f = true ∧ listed = mkL p f ∧ JI es L lv B w0 a0 p f a w F val
end
structure OpsAre (ops : Array Oper) : Prop where
  c : ∀ j, j < 3 → opIs ops (1 + 6 * j) (78 + 6 * j) (.call { callee := .value (.func 12), args := #[.tmp (77 + 6 * j)], argTypes := #[22] })
  b : ∀ j, j < 3 → opIs ops (3 + 6 * j) (80 + 6 * j) (.buildSlice 22 1 #[(0, .tmp (79 + 6 * j))])
  a : ∀ j, j < 3 → opIs ops (4 + 6 * j) (81 + 6 * j) (.call { callee := .builtin .append, args := #[.tmp (78 + 6 * j), .tmp (80 + 6 * j)], argTypes := #[22, 22] })
  r : ∀ j, j < 3 → opIs ops (5 + 6 * j) (82 + 6 * j) (.call { callee := .value (.func 7), args := #[.tmp (81 + 6 * j)], argTypes := #[22] })
  x : ∀ j, j < 3 → opIs ops (18 + j) (12 + j) (.alloc 29)
theorem three {P : Nat → Prop} (h0 : P 0) (h1 : P 1) (h2 : P 2) : ∀ j, j < 3 → P j := fun j hj => by
  have : j = 0 ∨ j = 1 ∨ j = 2 := by omega
  rcases this with rfl | rfl | rfl <;> assumption
theorem inv_step {es : Nat → Ev} {L : List Ev} {lv : Value} {B : Nat} {w0 : World} {a0 : Act} {ops : Array Oper} {Q : Act → World → Prop} {b2 : Nat} (hO : OpsAre ops) (hK : chk ops = true) (hL : w0.ownsRow b2 36 7 lv L.length (L.flatMap evC)) (hLl : L.length ≤ 40) (hew : ∀ j, j < 3 → ∀ e ∈ L ++ [es j], EvW e)
    (hx : ∀ a w F val, JI es L lv B w0 a0 9 [true, true, true, true, true, true] a w F val → wpKeep Try.prog ops (Upto B) Q [(false, 21), (false, 22), (false, 23)] a w) :
    ∀ listed a w, JJ es L lv B w0 a0 listed a w → (∃ ord : List (Bool × Nat), ord.length = left listed ∧ keepB .any ops ord listed = true ∧ wpKeep Try.prog ops (Upto B) Q ord a w) ∨ (Region.ready .any ops listed ≠ [] ∧ ∀ i ∈ Region.ready .any ops listed, kOp Try.prog ops (Upto B) i (JJ es L lv B w0 a0 (listed.setIfInBounds i true)) a w) := by
  rintro listed a w ⟨p, f, F, val, hp, hf, hok, rfl, hJ⟩
  have hc := chk_at hK hp hf hok
  unfold chk1 at hc
  split at hc
  · rename_i hd
    simp only [Bool.and_eq_true, decide_eq_true_eq] at hd
    obtain ⟨rfl, hd⟩ := hd
    have hft : f = [true, true, true, true, true, true] := by
      obtain ⟨b0, b1, b2, b3, b4, b5, rfl⟩ := list6 hf
      simp at hd
      simp [hd]
    subst hft
    exact Or.inl ⟨_, rfl, hc, hx a w F val hJ⟩
  · simp only [Bool.and_eq_true, List.all_eq_true] at hc
    refine Or.inr ⟨fun e => by rw [e] at hc; simp at hc, fun i hi => ?_⟩
    have ho := hc.2 i hi
    unfold okI at ho
    simp only [Bool.or_eq_true, Bool.and_eq_true, decide_eq_true_eq] at ho
    have bld : ∀ j, j < 3 → kOp Try.prog ops (Upto B) (3 + 6 * j) (JJ es L lv B w0 a0 ((mkL p f).setIfInBounds (3 + 6 * j) true)) a w := fun j hj =>
      kOp_mono (fun a' w' ⟨F', val', h'⟩ => ⟨p, f.set j true, F', val', hp, by simpa using hf, okF_set hok hf j, set_bld hf hj, h'⟩) (step_build hJ j hj (hO.b j hj))
    have box : ∀ j, j < 3 → kOp Try.prog ops (Upto B) (18 + j) (JJ es L lv B w0 a0 ((mkL p f).setIfInBounds (18 + j) true)) a w := fun j hj =>
      kOp_mono (fun a' w' ⟨F', val', h'⟩ => ⟨p, f.set (3 + j) true, F', val', hp, by simpa using hf, okF_set hok hf (3 + j), set_box hf hj, h'⟩) (step_box hJ j hj (hO.x j hj))
    rcases ho with (((((ho | ⟨rfl, _⟩) | ⟨rfl, _⟩) | ⟨rfl, _⟩) | ⟨rfl, _⟩) | ⟨rfl, _⟩) | ⟨rfl, _⟩
    · obtain ⟨⟨hp9, rfl⟩, hfa⟩ := ho
      rw [set_chain hp9]
      obtain ⟨j, hj⟩ : ∃ j, j = p / 3 := ⟨_, rfl⟩
      have hj3 : j < 3 := by omega
      have hs : p = 3 * j ∨ p = 3 * j + 1 ∨ p = 3 * j + 2 := by omega
      rcases hs with hs | hs | hs
      · rw [show chainI p = 1 + 6 * j by unfold chainI; rw [if_pos (by omega)]; omega]
        exact kOp_mono (fun a' w' ⟨F', val', h'⟩ => ⟨p + 1, f, F', val', by omega, hf, okF_up hok hfa, rfl, by rw [hs]; exact h'⟩) (step_clone hJ hL hLl j hj3 hs (hO.c j hj3))
      · rw [show chainI p = 4 + 6 * j by unfold chainI; rw [if_neg (by omega), if_pos (by omega)]; omega]
        have hfj : f[j]? = some true := by
          rcases hfa with x | x
          · omega
          · rw [← hj] at x
            rw [List.getD_eq_getElem?_getD, List.getElem?_eq_getElem (by omega)] at x
            rw [List.getElem?_eq_getElem (by omega)]
            simpa using x
        exact kOp_mono (fun a' w' ⟨F', val', h'⟩ => ⟨p + 1, f, F', val', by omega, hf, okF_up hok hfa, rfl, by rw [hs]; exact h'⟩) (step_append hJ hLl j hj3 hs hfj (hO.a j hj3))
      · rw [show chainI p = 5 + 6 * j by unfold chainI; rw [if_neg (by omega), if_neg (by omega)]; omega]
        exact kOp_mono (fun a' w' ⟨F', val', h'⟩ => ⟨p + 1, f, F', val', by omega, hf, okF_up hok hfa, rfl, by rw [hs]; exact h'⟩) (step_run hJ hew hLl j hj3 hs (hO.r j hj3))
    · exact bld 0 (by omega)
    · exact bld 1 (by omega)
    · exact bld 2 (by omega)
    · exact box 0 (by omega)
    · exact box 1 (by omega)
    · exact box 2 (by omega)
end Go.Proofs.Ytmldaiofghpfdaa.costEmpties
