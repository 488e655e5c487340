/- Postings and balances, in plain mathematics. No walk. -/
import Derived.Test.YtppamojkhkdfpaaDoorPerFigM
namespace Go.Proofs.YtppamojkhkdfpaaDoor
open Go.RowKit
/-- A posting. -/
structure Pst where
  deb : ByteArray
  cre : ByteArray
  amt : Int
  deriving Inhabited
def pstC (p : Pst) : List Value := [.string p.deb, .string p.cre, .int .i64 p.amt]
def pstV (p : Pst) : Value := .agg #[.string p.deb, .string p.cre, .int .i64 p.amt]
theorem pstC_len (p : Pst) : (pstC p).length = 3 := rfl
theorem pstC_flat (ps : List Pst) : (ps.flatMap pstC).length = ps.length * 3 := by
  induction ps with
  | nil => rfl
  | cons p ps ih => rw [List.flatMap_cons, List.length_append, ih, pstC_len, List.length_cons]; omega
def aGain : ByteArray := ⟨#[103, 97, 105, 110]⟩
def aLate : ByteArray := ⟨#[108, 97, 116, 101]⟩
def aLoss : ByteArray := ⟨#[108, 111, 115, 115]⟩
def aSold : ByteArray := ⟨#[115, 111, 108, 100]⟩
def aStock : ByteArray := ⟨#[115, 116, 111, 99, 107]⟩
def aSupply : ByteArray := ⟨#[115, 117, 112, 112, 108, 121]⟩
/-- A figure's posting, if it has one. -/
def post1 (p : Pst) : List Pst := if 0 < p.amt then [p] else if p.amt < 0 then [⟨p.cre, p.deb, wrap64 (-p.amt)⟩] else []
/-- Figures as they are posted. -/
def fives (f : Fig) : List Pst := [⟨aStock, aSupply, f.inn⟩, ⟨aSold, aStock, f.out⟩, ⟨aLoss, aStock, f.loss⟩, ⟨aStock, aGain, f.gain⟩, ⟨aLate, aSupply, f.late⟩]
def postL (f : Fig) : List Pst := (fives f).flatMap post1
theorem post1_len (p : Pst) : (post1 p).length ≤ 1 := by unfold post1; split <;> (try split) <;> simp
theorem postf_len : ∀ l : List Pst, (l.flatMap post1).length ≤ l.length
  | [] => Nat.le_refl _
  | p :: l => by
    rw [List.flatMap_cons, List.length_append, List.length_cons]
    have := post1_len p
    have := postf_len l
    omega
theorem postL_len (f : Fig) : (postL f).length ≤ 5 := postf_len (fives f)
/-- What a posting does to an account's balance. -/
def bal1 (k : ByteArray) (n : Int) (p : Pst) : Int :=
  let a := if p.deb = k then wrap64 (n + p.amt) else n
  if p.cre = k then wrap64 (a - p.amt) else a
def bal (k : ByteArray) (n : Int) (ps : List Pst) : Int := ps.foldl (bal1 k) n
/-- The same, as a number that may be any. -/
def sig (k : ByteArray) (p : Pst) : Int := (if p.deb = k then p.amt else 0) - (if p.cre = k then p.amt else 0)
def sigs (k : ByteArray) : List Pst → Int
  | [] => 0
  | p :: ps => sig k p + sigs k ps
theorem sigs_append (k : ByteArray) : ∀ a b : List Pst, sigs k (a ++ b) = sigs k a + sigs k b
  | [], b => by simp [sigs]
  | p :: a, b => by simp only [List.cons_append, sigs, sigs_append k a b]; omega
theorem wrap_add (a b : Int) : wrap64 (wrap64 a + b) = wrap64 (a + b) := by unfold wrap64; omega
theorem wrap_add' (a b : Int) : wrap64 (a + wrap64 b) = wrap64 (a + b) := by unfold wrap64; omega
theorem wrap_sub (a b : Int) : wrap64 (wrap64 a - b) = wrap64 (a - b) := by unfold wrap64; omega
theorem wrap_wrap (a : Int) : wrap64 (wrap64 a) = wrap64 a := by unfold wrap64; omega
theorem wrap_same {a : Int} (h : I64 a) : wrap64 a = a := by unfold I64 at h; unfold wrap64; omega
theorem bal1_wrap (k : ByteArray) (n : Int) (p : Pst) : bal1 k (wrap64 n) p = wrap64 (n + sig k p) := by
  unfold bal1 sig
  by_cases h1 : p.deb = k <;> by_cases h2 : p.cre = k <;> simp only [h1, h2, if_true, if_false]
  · rw [wrap_add, wrap_sub]; congr 1; omega
  · rw [wrap_add]; congr 1; omega
  · rw [wrap_sub]; congr 1; omega
  · simp
theorem bal_wrap (k : ByteArray) : ∀ (ps : List Pst) (n : Int), bal k (wrap64 n) ps = wrap64 (n + sigs k ps)
  | [], n => by simp [bal, sigs]
  | p :: ps, n => by
    show bal k (bal1 k (wrap64 n) p) ps = _
    rw [bal1_wrap, bal_wrap k ps]
    simp only [sigs]
    congr 1; omega
theorem bal_zero (k : ByteArray) (ps : List Pst) : bal k 0 ps = wrap64 (sigs k ps) := by
  have := bal_wrap k ps 0
  simpa [wrap64] using this
/-- What an account has of figures. -/
def lin (k : ByteArray) (f : Fig) : Int :=
  if k = aStock then f.inn - f.out - f.loss + f.gain
  else if k = aSupply then -f.inn - f.late
  else if k = aSold then f.out
  else if k = aLoss then f.loss
  else if k = aGain then -f.gain
  else if k = aLate then f.late
  else 0
theorem sigs_post1 (k : ByteArray) (p : Pst) : wrap64 (sigs k (post1 p)) = wrap64 (sig k p) := by
  unfold post1
  by_cases h1 : 0 < p.amt
  · rw [if_pos h1]; simp [sigs]
  · rw [if_neg h1]
    by_cases h2 : p.amt < 0
    · rw [if_pos h2]
      simp only [sigs, sig]
      by_cases c1 : p.cre = k <;> by_cases c2 : p.deb = k <;> simp only [c1, c2, if_true, if_false] <;> unfold wrap64 <;> omega
    · rw [if_neg h2]
      have : p.amt = 0 := by omega
      simp [sigs, sig, this]
theorem sigs_flat (k : ByteArray) : ∀ l : List Pst, wrap64 (sigs k (l.flatMap post1)) = wrap64 (sigs k l)
  | [] => rfl
  | p :: l => by
    rw [List.flatMap_cons, sigs_append]
    have h1 := sigs_post1 k p
    have h2 := sigs_flat k l
    simp only [sigs]
    rw [← wrap_add, h1, wrap_add, ← wrap_add', h2, wrap_add']
theorem ne_acc : aStock ≠ aSupply ∧ aStock ≠ aSold ∧ aStock ≠ aLoss ∧ aStock ≠ aGain ∧ aStock ≠ aLate ∧ aSupply ≠ aSold ∧ aSupply ≠ aLoss ∧ aSupply ≠ aGain ∧ aSupply ≠ aLate ∧ aSold ≠ aLoss ∧ aSold ≠ aGain ∧ aSold ≠ aLate ∧ aLoss ≠ aGain ∧ aLoss ≠ aLate ∧ aGain ≠ aLate := by decide
theorem sigs_fives (k : ByteArray) (f : Fig) : sigs k (fives f) = lin k f := by
  obtain ⟨h1, h2, h3, h4, h5, h6, h7, h8, h9, h10, h11, h12, h13, h14, h15⟩ := ne_acc
  simp only [fives, sigs, sig, lin]
  by_cases e1 : k = aStock
  · subst e1; simp [h1.symm, h2.symm, h3.symm, h4.symm, h5.symm]; omega
  · rw [if_neg e1]
    have e1' : ¬ aStock = k := fun e => e1 e.symm
    by_cases e2 : k = aSupply
    · subst e2; simp [h1, h6.symm, h7.symm, h8.symm, h9.symm]; omega
    · rw [if_neg e2]
      have e2' : ¬ aSupply = k := fun e => e2 e.symm
      by_cases e3 : k = aSold
      · subst e3; simp [h2, h6, h10.symm, h11.symm, h12.symm]
      · rw [if_neg e3]
        have e3' : ¬ aSold = k := fun e => e3 e.symm
        by_cases e4 : k = aLoss
        · subst e4; simp [h3, h7, h10, h13.symm, h14.symm]
        · rw [if_neg e4]
          have e4' : ¬ aLoss = k := fun e => e4 e.symm
          by_cases e5 : k = aGain
          · subst e5; simp [h4, h8, h11, h13, h15.symm]
          · rw [if_neg e5]
            have e5' : ¬ aGain = k := fun e => e5 e.symm
            by_cases e6 : k = aLate
            · subst e6; simp [h5, h9, h12, h14, h15]
            · rw [if_neg e6]
              have e6' : ¬ aLate = k := fun e => e6 e.symm
              simp [e1', e2', e3', e4', e5', e6']
/-- An account's balance of figures' postings. -/
theorem sigs_postL (k : ByteArray) (f : Fig) : wrap64 (sigs k (postL f)) = wrap64 (lin k f) := by
  unfold postL
  rw [sigs_flat, sigs_fives]
/-- The accounts of postings. -/
def accs (ps : List Pst) : List ByteArray := ps.flatMap fun p => [p.deb, p.cre]
theorem sigs_none {k : ByteArray} : ∀ {ps : List Pst}, k ∉ accs ps → sigs k ps = 0
  | [], _ => rfl
  | p :: ps, h => by
    have e : accs (p :: ps) = p.deb :: p.cre :: accs ps := rfl
    rw [e, List.mem_cons, List.mem_cons] at h
    simp only [not_or] at h
    have h1 : ¬ p.deb = k := fun c => h.1 c.symm
    have h2 : ¬ p.cre = k := fun c => h.2.1 c.symm
    simp [sigs, sig, h1, h2, sigs_none h.2.2]
end Go.Proofs.YtppamojkhkdfpaaDoor
