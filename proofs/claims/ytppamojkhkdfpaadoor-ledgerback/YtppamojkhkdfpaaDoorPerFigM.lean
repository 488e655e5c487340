/- Figures and closes, in plain mathematics. No walk. -/
import Derived.Test.YtppamojkhkdfpaaDoorCoMath
namespace Go.Proofs.YtppamojkhkdfpaaDoor
open Go.RowKit
/-- Figures. -/
structure Fig where
  inn : Int
  out : Int
  loss : Int
  gain : Int
  late : Int
  deriving Inhabited
def fig0 : Fig := ⟨0, 0, 0, 0, 0⟩
def Fig.plus (a b : Fig) : Fig := ⟨wrap64 (a.inn + b.inn), wrap64 (a.out + b.out), wrap64 (a.loss + b.loss), wrap64 (a.gain + b.gain), wrap64 (a.late + b.late)⟩
def Fig.minus (a b : Fig) : Fig := ⟨wrap64 (a.inn - b.inn), wrap64 (a.out - b.out), wrap64 (a.loss - b.loss), wrap64 (a.gain - b.gain), wrap64 (a.late - b.late)⟩
def I64 (n : Int) : Prop := -9223372036854775808 ≤ n ∧ n ≤ 9223372036854775807
structure Fig.ok (a : Fig) : Prop where
  inn : I64 a.inn
  out : I64 a.out
  loss : I64 a.loss
  gain : I64 a.gain
  late : I64 a.late
theorem i64_wrap (n : Int) : I64 (wrap64 n) := by unfold I64 wrap64; omega
theorem plus_ok (a b : Fig) : (a.plus b).ok := ⟨i64_wrap _, i64_wrap _, i64_wrap _, i64_wrap _, i64_wrap _⟩
theorem minus_ok (a b : Fig) : (a.minus b).ok := ⟨i64_wrap _, i64_wrap _, i64_wrap _, i64_wrap _, i64_wrap _⟩
theorem fig0_ok : fig0.ok := by constructor <;> (unfold I64 fig0; simp)
theorem wrap_back {a b : Int} (h : I64 a) : wrap64 (wrap64 (a + b) - b) = a := by unfold I64 at h; unfold wrap64; omega
theorem wrap_forth {a b : Int} (h : I64 a) : wrap64 (wrap64 (a - b) + b) = a := by unfold I64 at h; unfold wrap64; omega
theorem wrap_swap (a b c : Int) : wrap64 (wrap64 (a - b) + c) = wrap64 (wrap64 (a + c) - b) := by unfold wrap64; omega
theorem plus_minus {a : Fig} (b : Fig) (h : a.ok) : (a.plus b).minus b = a := by
  unfold Fig.plus Fig.minus
  simp only [wrap_back h.inn, wrap_back h.out, wrap_back h.loss, wrap_back h.gain, wrap_back h.late]
theorem minus_plus {a : Fig} (b : Fig) (h : a.ok) : (a.minus b).plus b = a := by
  unfold Fig.plus Fig.minus
  simp only [wrap_forth h.inn, wrap_forth h.out, wrap_forth h.loss, wrap_forth h.gain, wrap_forth h.late]
theorem minus_swap (a b c : Fig) : (a.minus b).plus c = (a.plus c).minus b := by
  unfold Fig.plus Fig.minus
  simp only [wrap_swap]
def figC (f : Fig) : List Value := [.int .i64 f.inn, .int .i64 f.out, .int .i64 f.loss, .int .i64 f.gain, .int .i64 f.late]
def figV (f : Fig) : Value := .agg #[.int .i64 f.inn, .int .i64 f.out, .int .i64 f.loss, .int .i64 f.gain, .int .i64 f.late]
/-- What a line of an event of a kind comes to. -/
def figOf (kind : Int) (y : Lin) : Fig :=
  if kind = 1 ∨ kind = 2 then ⟨y.val, 0, 0, 0, y.late⟩
  else if kind = 3 then ⟨0, y.val, 0, 0, y.late⟩
  else if y.gain then ⟨0, 0, 0, y.val, y.late⟩
  else ⟨0, 0, y.val, 0, y.late⟩
/-- A close: of which month, behind which turn, what was posted. -/
structure Cl where
  month : Int
  turn : Int
  posted : Fig
  deriving Inhabited
def clC (c : Cl) : List Value := .int .i64 c.month :: .int .i64 c.turn :: figC c.posted
theorem clC_len (c : Cl) : (clC c).length = 7 := rfl
/-- Less all that was posted. -/
def unp (f : Fig) : List Cl → Fig
  | [] => f
  | c :: cs => unp (f.minus c.posted) cs
theorem unp_append (f : Fig) (a b : List Cl) : unp f (a ++ b) = unp (unp f a) b := by
  induction a generalizing f with
  | nil => rfl
  | cons p a ih => exact ih _
theorem unp_ok : ∀ (cs : List Cl) (f : Fig), f.ok → (unp f cs).ok
  | [], _, h => h
  | _ :: cs, _, _ => unp_ok cs _ (minus_ok _ _)
/-- And all that was posted. -/
def sumC (f : Fig) : List Cl → Fig
  | [] => f
  | c :: cs => sumC (f.plus c.posted) cs
theorem sumC_append (f : Fig) (a b : List Cl) : sumC f (a ++ b) = sumC (sumC f a) b := by
  induction a generalizing f with
  | nil => rfl
  | cons p a ih => exact ih _
theorem unp_plus : ∀ (cs : List Cl) (f g : Fig), (unp f cs).plus g = unp (f.plus g) cs
  | [], _, _ => rfl
  | c :: cs, f, g => by
    unfold unp
    rw [unp_plus cs, minus_swap]
/-- What is open and what was posted are all. -/
theorem sum_unp : ∀ (cs : List Cl) (f : Fig), f.ok → sumC (unp f cs) cs = f
  | [], _, _ => rfl
  | c :: cs, f, h => by
    unfold unp sumC
    rw [unp_plus, minus_plus _ h]
    exact sum_unp cs f h
theorem wrap_two (a b c : Int) : wrap64 (wrap64 (a + c) + wrap64 (b - c)) = wrap64 (a + b) := by unfold wrap64; omega
theorem plus_two (a b c : Fig) : (a.plus c).plus (b.minus c) = a.plus b := by
  unfold Fig.plus Fig.minus
  simp only [wrap_two]
theorem fig0_plus {f : Fig} (h : f.ok) : fig0.plus f = f := by
  obtain ⟨a, b, c, d, e⟩ := f
  obtain ⟨h1, h2, h3, h4, h5⟩ := h
  unfold I64 at h1 h2 h3 h4 h5
  simp only at h1 h2 h3 h4 h5
  unfold Fig.plus fig0
  simp only [Int.zero_add, Fig.mk.injEq]
  unfold wrap64
  omega
theorem sum_plus : ∀ (cs : List Cl) (g f : Fig), (sumC g cs).plus (unp f cs) = g.plus f
  | [], _, _ => rfl
  | c :: cs, g, f => by
    unfold sumC unp
    rw [sum_plus cs, plus_two]
/-- Behind a close all that was posted is what all months up to it come to. -/
theorem sum_close (cs : List Cl) (m t : Int) {f : Fig} (h : f.ok) : sumC fig0 (cs ++ [⟨m, t, unp f cs⟩]) = f := by
  rw [sumC_append]
  show (sumC fig0 cs).plus (unp f cs) = f
  rw [sum_plus, fig0_plus h]
end Go.Proofs.YtppamojkhkdfpaaDoor
