/- What all walks of this seat lean on. Which events may be, in plain mathematics. No walk. What events come to, in plain mathematics: layers, lines, stocks. No walk. -/
import Derived.Test.YtcfgacdcgljbaaaGreatRows
import Derived.WalkKit
import Derived.ProofKit
import Derived.OpenShut
import Derived.WalkSpells
import Derived.Deep.QuietTactic
import Derived.BigQuiet
namespace Go.Proofs.YtcfgacdcgljbaaaGreat
open Go.RowKit
theorem ret_int {k : IntKind} {a b : Int} (h : a = b) : Ending.returned (.int k a) = .returned (.int k b) := by rw [h]
theorem ret_bool {a : Bool} (h : a = true) : Ending.returned (.bool a) = .returned (.bool true) := by rw [h]
end Go.Proofs.YtcfgacdcgljbaaaGreat
namespace Go.Proofs.YtcfgacdcgljbaaaGreat
/-- What an event's fields hold. -/
structure Ev where
  id : Int
  item : ByteArray
  kind : Int
  qty : Int
  price : Int
  ofI : Int
  day : Int
  deriving Inhabited
def isLet (c : UInt8) : Prop := 97 ≤ c.toNat ∧ c.toNat ≤ 122
def isDig (c : UInt8) : Prop := 48 ≤ c.toNat ∧ c.toNat ≤ 57
def isName (l : List UInt8) : Prop := (1 ≤ l.length ∧ l.length ≤ 10) ∧ (∀ c, l.head? = some c → isLet c) ∧ ∀ c ∈ l, isLet c ∨ isDig c
def rtK (k q p o : Int) : Prop :=
  (k = 1 ∧ (1 ≤ q ∧ q ≤ 100000) ∧ (0 ≤ p ∧ p ≤ 1000000) ∧ o = 0) ∨ (k = 2 ∧ q = 0 ∧ (1 ≤ p ∧ p ≤ 100000000000) ∧ (1 ≤ o ∧ o ≤ 9223372036854775807))
  ∨ (k = 3 ∧ (1 ≤ q ∧ q ≤ 100000) ∧ p = 0 ∧ o = 0) ∨ (k = 4 ∧ (0 ≤ q ∧ q ≤ 100000) ∧ p = 0 ∧ o = 0)
/-- The event may be. -/
def Rt (e : Ev) : Prop := isName e.item.data.toList ∧ (0 ≤ e.day ∧ e.day ≤ 99999) ∧ rtK e.kind e.qty e.price e.ofI
theorem hidE {p : Prop} (h : p) : RowKit.Hid p := h
theorem eba_len (x : ByteArray) : x.data.toList.length = x.size := by simp
theorem ebh_is (s : ByteArray) (h : 0 < s.size) : s.data.toList.head? = some s[0] := by
  rw [List.head?_eq_getElem?, List.getElem?_eq_getElem (by simpa using h)]; rfl
end Go.Proofs.YtcfgacdcgljbaaaGreat
namespace Go.Proofs.YtcfgacdcgljbaaaGreat
/-- A layer: its number, how many, of which value. -/
structure Lay where
  id : Int
  qty : Int
  val : Int
  deriving Inhabited
/-- What an event came to. -/
structure Lin where
  id : Int
  val : Int
  short : Int
  late : Int
  gain : Bool
  deriving Inhabited
/-- What there is of an item. -/
structure Stk where
  ys : List Lay
  price : Int
  deriving Inhabited
def stk0 : Stk := ⟨[], 0⟩
def sumQ : List Lay → Int
  | [] => 0
  | y :: ys => y.qty + sumQ ys
def sumV : List Lay → Int
  | [] => 0
  | y :: ys => y.val + sumV ys
/-- So many are taken, the first in first: what is left, their value, how many were missing. -/
def tk : List Lay → Int → List Lay × Int × Int
  | [], n => ([], 0, n)
  | y :: ys, n =>
    if n ≤ 0 then (y :: ys, 0, n)
    else if n < y.qty then (⟨y.id, y.qty - n, y.val - y.val * n / y.qty⟩ :: ys, y.val * n / y.qty, 0)
    else ((tk ys (n - y.qty)).1, y.val + (tk ys (n - y.qty)).2.1, (tk ys (n - y.qty)).2.2)
/-- A charge on the first layer of its number. -/
def chg (o p : Int) : List Lay → List Lay
  | [] => []
  | y :: ys => if y.id = o then ⟨y.id, y.qty, y.val + p⟩ :: ys else y :: chg o p ys
def hasId (o : Int) (ys : List Lay) : Bool := ys.any fun y => decide (y.id = o)
def doE (s : Stk) (e : Ev) : Stk × Lin :=
  if e.kind = 1 then (⟨s.ys ++ [⟨e.id, e.qty, e.qty * e.price⟩], e.price⟩, ⟨e.id, e.qty * e.price, 0, 0, false⟩)
  else if e.kind = 2 then
    if hasId e.ofI s.ys then (⟨chg e.ofI e.price s.ys, s.price⟩, ⟨e.id, e.price, 0, 0, false⟩) else (s, ⟨e.id, 0, 0, e.price, false⟩)
  else if e.kind = 3 then (⟨(tk s.ys e.qty).1, s.price⟩, ⟨e.id, (tk s.ys e.qty).2.1, (tk s.ys e.qty).2.2, 0, false⟩)
  else if sumQ s.ys < e.qty then (⟨s.ys ++ [⟨e.id, e.qty - sumQ s.ys, (e.qty - sumQ s.ys) * s.price⟩], s.price⟩, ⟨e.id, (e.qty - sumQ s.ys) * s.price, 0, 0, true⟩)
  else (⟨(tk s.ys (sumQ s.ys - e.qty)).1, s.price⟩, ⟨e.id, (tk s.ys (sumQ s.ys - e.qty)).2.1, 0, 0, false⟩)
/-- Stocks of items. -/
abbrev Stks : Type := ByteArray → Stk
def upd (M : Stks) (x : ByteArray) (s : Stk) : Stks := fun y => if y = x then s else M y
def goS (M : Stks) : List Ev → Stks
  | [] => M
  | e :: l => goS (upd M e.item (doE (M e.item) e).1) l
def goL (M : Stks) : List Ev → List Lin
  | [] => []
  | e :: l => (doE (M e.item) e).2 :: goL (upd M e.item (doE (M e.item) e).1) l
def stk00 : Stks := fun _ => stk0
theorem goS_append (M : Stks) (a b : List Ev) : goS M (a ++ b) = goS (goS M a) b := by
  induction a generalizing M with
  | nil => rfl
  | cons e a ih => exact ih _
theorem goL_append (M : Stks) (a b : List Ev) : goL M (a ++ b) = goL M a ++ goL (goS M a) b := by
  induction a generalizing M with
  | nil => rfl
  | cons e a ih => rw [List.cons_append, goL, goL, ih]; rfl
theorem goL_len (M : Stks) (a : List Ev) : (goL M a).length = a.length := by
  induction a generalizing M with
  | nil => rfl
  | cons e a ih => rw [goL, List.length_cons, ih, List.length_cons]
theorem goS_snoc (M : Stks) (l : List Ev) (k : Nat) (hk : k < l.length) : goS M (l.take (k + 1)) = upd (goS M (l.take k)) l[k].item (doE (goS M (l.take k) l[k].item) l[k]).1 := by
  rw [List.take_succ_eq_append_getElem hk, goS_append]; rfl
theorem goL_snoc (M : Stks) (l : List Ev) (k : Nat) (hk : k < l.length) : goL M (l.take (k + 1)) = goL M (l.take k) ++ [(doE (goS M (l.take k) l[k].item) l[k]).2] := by
  rw [List.take_succ_eq_append_getElem hk, goL_append]; rfl
theorem upd_same (M : Stks) (x : ByteArray) (s : Stk) : upd M x s x = s := by unfold upd; rw [if_pos rfl]
theorem upd_other (M : Stks) (x y : ByteArray) (s : Stk) (h : y ≠ x) : upd M x s y = M y := by unfold upd; rw [if_neg h]
theorem sumQ_append (a b : List Lay) : sumQ (a ++ b) = sumQ a + sumQ b := by
  induction a with
  | nil => simp [sumQ]
  | cons y a ih => rw [List.cons_append, sumQ, ih, sumQ]; omega
theorem sumV_append (a b : List Lay) : sumV (a ++ b) = sumV a + sumV b := by
  induction a with
  | nil => simp [sumV]
  | cons y a ih => rw [List.cons_append, sumV, ih, sumV]; omega
/-- A layer that may be. -/
def LayOK (y : Lay) : Prop := 1 ≤ y.qty ∧ y.qty ≤ 100000 ∧ 0 ≤ y.val
theorem sum_nonneg {ys : List Lay} (h : ∀ y ∈ ys, LayOK y) : 0 ≤ sumQ ys ∧ 0 ≤ sumV ys := by
  induction ys with
  | nil => exact ⟨Int.le_refl _, Int.le_refl _⟩
  | cons y ys ih =>
    have h1 := h y (List.mem_cons_self ..)
    have h2 := ih fun z hz => h z (List.mem_cons_of_mem _ hz)
    unfold LayOK at h1
    rw [sumQ, sumV]
    omega
theorem mem_sum {ys : List Lay} (h : ∀ y ∈ ys, LayOK y) {y : Lay} (hy : y ∈ ys) : y.val ≤ sumV ys ∧ y.qty ≤ sumQ ys := by
  induction ys with
  | nil => cases hy
  | cons z ys ih =>
    have h1 := h z (List.mem_cons_self ..)
    have hr : ∀ y ∈ ys, LayOK y := fun z hz => h z (List.mem_cons_of_mem _ hz)
    have h2 := sum_nonneg hr
    unfold LayOK at h1
    rw [sumQ, sumV]
    rcases List.mem_cons.1 hy with rfl | hm
    · omega
    · have := ih hr hm; omega
theorem part_le {v n q : Int} (hv : 0 ≤ v) (hn : 0 ≤ n) (hq : 0 < q) (hnq : n ≤ q) : 0 ≤ v * n / q ∧ v * n / q ≤ v := by
  refine ⟨Int.ediv_nonneg (Int.mul_nonneg hv hn) (by omega), ?_⟩
  refine Int.ediv_le_of_le_mul hq ?_
  exact Int.mul_le_mul_of_nonneg_left hnq hv
theorem part_split {v n q : Int} (hq : q ≠ 0) : v / q * n + v % q * n / q = v * n / q := by
  have h : v * n = v % q * n + q * (v / q * n) := by
    have := Int.emod_add_mul_ediv v q
    conv => lhs; rw [← this]
    rw [Int.add_mul, Int.mul_assoc]
  rw [h, Int.add_mul_ediv_left _ _ hq, Int.add_comm]
structure Took (ys : List Lay) (n : Int) (r : List Lay × Int × Int) : Prop where
  ok : ∀ y ∈ r.1, LayOK y
  val : sumV r.1 + r.2.1 = sumV ys
  pos : 0 ≤ r.2.1
  len : r.1.length ≤ ys.length
  few : n ≤ sumQ ys → sumQ r.1 = sumQ ys - n ∧ r.2.2 = 0
  many : sumQ ys < n → sumQ r.1 = 0 ∧ r.2.2 = n - sumQ ys
  gone : sumQ ys ≤ n → r.1 = []
theorem tk_took : ∀ (ys : List Lay) (n : Int), (∀ y ∈ ys, LayOK y) → 0 ≤ n → Took ys n (tk ys n)
  | [], n, h, hn => by
    refine ⟨fun y hy => (by cases hy), (by simp [tk, sumV]), Int.le_refl _, Nat.le_refl _, fun hq => ?_, fun hq => ?_, fun _ => rfl⟩
    · refine ⟨?_, ?_⟩ <;> first | rfl | (simp only [tk, sumQ] at hq ⊢; omega)
    · refine ⟨?_, ?_⟩ <;> first | rfl | (simp only [tk, sumQ] at hq ⊢; omega)
  | y :: ys, n, h, hn => by
    have h1 := h y (List.mem_cons_self ..)
    have hr : ∀ y ∈ ys, LayOK y := fun z hz => h z (List.mem_cons_of_mem _ hz)
    have h2 := sum_nonneg hr
    unfold LayOK at h1
    unfold tk
    by_cases e0 : n ≤ 0
    · rw [if_pos e0]
      refine ⟨h, by simp, Int.le_refl _, Nat.le_refl _, fun hq => ?_, fun hq => ?_, fun hq => ?_⟩
      · refine ⟨?_, ?_⟩ <;> first | rfl | (simp only [sumQ] at hq ⊢; omega)
      · refine ⟨?_, ?_⟩ <;> first | rfl | (simp only [sumQ] at hq ⊢; omega)
      · simp only [sumQ] at hq; omega
    · rw [if_neg e0]
      by_cases e1 : n < y.qty
      · rw [if_pos e1]
        have hp := part_le h1.2.2 hn (by omega : 0 < y.qty) (by omega)
        refine ⟨fun z hz => ?_, ?_, hp.1, Nat.le_refl _, fun hq => ?_, fun hq => ?_, fun hq => ?_⟩
        · rcases List.mem_cons.1 hz with rfl | hm
          · refine ⟨?_, ?_, ?_⟩ <;> simp only <;> omega
          · exact hr z hm
        · simp only [sumV]; omega
        · refine ⟨?_, ?_⟩ <;> first | rfl | (simp only [sumQ] at hq ⊢; omega)
        · refine ⟨?_, ?_⟩ <;> first | rfl | (simp only [sumQ] at hq ⊢; omega)
        · simp only [sumQ] at hq; omega
      · rw [if_neg e1]
        have ih := tk_took ys (n - y.qty) hr (by omega)
        refine ⟨ih.ok, ?_, ?_, ?_, fun hq => ?_, fun hq => ?_, fun hq => ih.gone (by simp only [sumQ] at hq; omega)⟩
        · have := ih.val; simp only [sumV]; omega
        · have := ih.pos; simp only; omega
        · have := ih.len; simp only [List.length_cons]; omega
        · simp only [sumQ] at hq ⊢
          have := ih.few (by omega); omega
        · simp only [sumQ] at hq ⊢
          have := ih.many (by omega); omega
/-- A stock that may be, behind k events. -/
structure StkOK (k : Nat) (s : Stk) : Prop where
  ok : ∀ y ∈ s.ys, LayOK y
  len : s.ys.length ≤ k
  v : sumV s.ys ≤ k * 100000000000
  q : sumQ s.ys ≤ k * 100000
  p : 0 ≤ s.price ∧ s.price ≤ 1000000
theorem stk0_ok (k : Nat) : StkOK k stk0 := ⟨fun y hy => (by cases hy), Nat.zero_le _, by simp only [stk0, sumV]; omega, by simp only [stk0, sumQ]; omega, by simp [stk0]⟩
theorem StkOK.more {k j : Nat} {s : Stk} (h : StkOK k s) (hk : k ≤ j) : StkOK j s := ⟨h.ok, Nat.le_trans h.len hk, by have := h.v; omega, by have := h.q; omega, h.p⟩
theorem chg_sum (o p : Int) : ∀ ys : List Lay, sumQ (chg o p ys) = sumQ ys ∧ sumV (chg o p ys) = sumV ys + (if hasId o ys then p else 0) ∧ (chg o p ys).length = ys.length
  | [] => by simp [chg, sumQ, sumV, hasId]
  | y :: ys => by
    have ih := chg_sum o p ys
    unfold chg
    by_cases e : y.id = o
    · rw [if_pos e]
      have hh : hasId o (y :: ys) = true := by simp [hasId, e]
      rw [hh]
      refine ⟨rfl, ?_, by simp⟩
      simp only [sumV, if_true]; omega
    · rw [if_neg e]
      have hh : hasId o (y :: ys) = hasId o ys := by simp [hasId, e]
      rw [hh]
      refine ⟨?_, ?_, by simp [ih.2.2]⟩
      · simp only [sumQ]; omega
      · simp only [sumV]; omega
theorem chg_ok (o p : Int) (hp : 0 ≤ p) : ∀ ys : List Lay, (∀ y ∈ ys, LayOK y) → ∀ y ∈ chg o p ys, LayOK y
  | [], _, y, hy => by cases hy
  | z :: ys, h, y, hy => by
    unfold chg at hy
    have hz := h z (List.mem_cons_self ..)
    have hr : ∀ y ∈ ys, LayOK y := fun x hx => h x (List.mem_cons_of_mem _ hx)
    split at hy
    · rcases List.mem_cons.1 hy with rfl | hm
      · unfold LayOK at hz ⊢; simp only; omega
      · exact hr y hm
    · rcases List.mem_cons.1 hy with rfl | hm
      · exact hz
      · exact chg_ok o p hp ys hr y hm
theorem mul_bound {q p : Int} (h1 : 0 ≤ q) (h2 : q ≤ 100000) (h3 : 0 ≤ p) (h4 : p ≤ 1000000) : 0 ≤ q * p ∧ q * p ≤ 100000000000 := by
  refine ⟨Int.mul_nonneg h1 h3, ?_⟩
  have a := Int.mul_le_mul h2 h4 h3 (by omega : (0 : Int) ≤ 100000)
  omega
/-- What an event comes to is in bounds. -/
structure LinOK (y : Lin) : Prop where
  v : 0 ≤ y.val
  s : 0 ≤ y.short
  l : 0 ≤ y.late
theorem doE_ok {k : Nat} {s : Stk} {e : Ev} (h : StkOK k s) (hr : rtK e.kind e.qty e.price e.ofI) : StkOK (k + 1) (doE s e).1 ∧ LinOK (doE s e).2 := by
  have hn := sum_nonneg h.ok
  have hv := h.v
  have hq := h.q
  have hl := h.len
  have hp := h.p
  have hsnoc : ∀ (i q v : Int) (p : Int), 1 ≤ q → q ≤ 100000 → 0 ≤ v → v ≤ 100000000000 → 0 ≤ p → p ≤ 1000000 → StkOK (k + 1) ⟨s.ys ++ [⟨i, q, v⟩], p⟩ := fun i q v p a1 a2 a3 a4 a5 a6 => by
    refine ⟨fun y hy => ?_, by simp; omega, ?_, ?_, ⟨a5, a6⟩⟩
    · rcases List.mem_append.1 hy with hm | hm
      · exact h.ok y hm
      · rw [List.mem_singleton] at hm; subst hm; exact ⟨a1, a2, a3⟩
    · rw [sumV_append]; simp only [sumV]; omega
    · rw [sumQ_append]; simp only [sumQ]; omega
  have htk : ∀ n : Int, 0 ≤ n → StkOK (k + 1) ⟨(tk s.ys n).1, s.price⟩ ∧ 0 ≤ (tk s.ys n).2.1 ∧ 0 ≤ (tk s.ys n).2.2 := fun n n0 => by
    have t := tk_took s.ys n h.ok n0
    have t2 := sum_nonneg t.ok
    refine ⟨⟨t.ok, by have := t.len; simp only; omega, ?_, ?_, hp⟩, t.pos, ?_⟩
    · have := t.val; have := t.pos; simp only; omega
    · rcases Int.lt_or_le (sumQ s.ys) n with c | c
      · have := t.many c; simp only; omega
      · have := t.few c; simp only; omega
    · rcases Int.lt_or_le (sumQ s.ys) n with c | c
      · have := t.many c; omega
      · have := t.few c; omega
  unfold doE
  rcases hr with ⟨e1, a, b, c⟩ | ⟨e1, a, b, c⟩ | ⟨e1, a, b, c⟩ | ⟨e1, a, b, c⟩
  · rw [if_pos e1]
    have m := mul_bound (by omega) a.2 b.1 b.2
    exact ⟨hsnoc _ _ _ _ a.1 a.2 m.1 m.2 b.1 b.2, ⟨m.1, Int.le_refl _, Int.le_refl _⟩⟩
  · rw [if_neg (by omega), if_pos e1]
    split
    · have cs := chg_sum e.ofI e.price s.ys
      refine ⟨⟨chg_ok _ _ (by omega) _ h.ok, by rw [cs.2.2]; omega, ?_, by rw [cs.1]; omega, hp⟩, ⟨by simp only; omega, Int.le_refl _, Int.le_refl _⟩⟩
      rw [cs.2.1]; split <;> omega
    · exact ⟨h.more (by omega), ⟨Int.le_refl _, Int.le_refl _, by simp only; omega⟩⟩
  · rw [if_neg (by omega), if_neg (by omega), if_pos e1]
    have t := htk e.qty (by omega)
    exact ⟨t.1, ⟨t.2.1, t.2.2, Int.le_refl _⟩⟩
  · rw [if_neg (by omega), if_neg (by omega), if_neg (by omega)]
    split
    · have m := mul_bound (q := e.qty - sumQ s.ys) (p := s.price) (by omega) (by omega) hp.1 hp.2
      exact ⟨hsnoc _ _ _ _ (by omega) (by omega) m.1 m.2 hp.1 hp.2, ⟨m.1, Int.le_refl _, Int.le_refl _⟩⟩
    · have t := htk (sumQ s.ys - e.qty) (by omega)
      exact ⟨t.1, ⟨t.2.1, Int.le_refl _, Int.le_refl _⟩⟩
theorem upd_ok {k : Nat} {M : Stks} {x : ByteArray} {s : Stk} (h : ∀ y, StkOK k (M y)) (hs : StkOK (k + 1) s) : ∀ y, StkOK (k + 1) (upd M x s y) := fun y => by
  unfold upd
  split
  · exact hs
  · exact (h y).more (by omega)
theorem goS_ok : ∀ (l : List Ev) (k : Nat) (M : Stks), (∀ y, StkOK k (M y)) → (∀ e ∈ l, Rt e) → (∀ y, StkOK (k + l.length) (goS M l y)) ∧ ∀ z ∈ goL M l, LinOK z
  | [], k, M, h, _ => ⟨h, fun z hz => by cases hz⟩
  | e :: l, k, M, h, hr => by
    have d := doE_ok (h e.item) (hr e (List.mem_cons_self ..)).2.2
    have ih := goS_ok l (k + 1) (upd M e.item (doE (M e.item) e).1) (upd_ok h d.1) fun x hx => hr x (List.mem_cons_of_mem _ hx)
    refine ⟨fun y => ?_, fun z hz => ?_⟩
    · have := ih.1 y
      rw [List.length_cons, show k + (l.length + 1) = k + 1 + l.length by omega]
      exact this
    · rcases List.mem_cons.1 hz with rfl | hm
      · exact d.2
      · exact ih.2 z hm
end Go.Proofs.YtcfgacdcgljbaaaGreat
