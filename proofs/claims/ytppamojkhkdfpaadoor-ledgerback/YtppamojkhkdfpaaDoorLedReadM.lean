/- Which posting a line is, in plain mathematics. -/
import Derived.Test.YtppamojkhkdfpaaDoorLedText
import Derived.Test.YtppamojkhkdfpaaDoorAmountMath
import Derived.Lib.SplitLaws
import Derived.Lib.CountLaws
namespace Go.Proofs.YtppamojkhkdfpaaDoor
open Go.RowKit
theorem indexL_at (z : UInt8) : ∀ (a b : List UInt8), z ∉ a → Lib.index (a ++ z :: b) [z] = (a.length : Int)
  | [], b, _ => by simp [Lib.index]
  | x :: a, b, h => by
    have hx : ¬ z = x := by intro e; apply h; rw [e]; exact List.mem_cons_self
    have ih := indexL_at z a b (fun hm => h (List.mem_cons_of_mem _ hm))
    have hp : ([z] : List UInt8).isPrefixOf (x :: (a ++ z :: b)) = false := by simp [List.isPrefixOf, hx]
    rw [List.cons_append, Lib.index, hp, ih]
    have hne : ((a.length : Int) == -1) = false := by simp
    rw [hne]
    simp
theorem indexL_not (z : UInt8) : ∀ (a : List UInt8), z ∉ a → Lib.index a [z] = -1
  | [], _ => by simp [Lib.index]
  | x :: a, h => by
    have hx : ¬ z = x := by intro e; apply h; rw [e]; exact List.mem_cons_self
    have ih := indexL_not z a (fun hm => h (List.mem_cons_of_mem _ hm))
    have hp : ([z] : List UInt8).isPrefixOf (x :: a) = false := by simp [List.isPrefixOf, hx]
    rw [Lib.index, hp, ih]
    simp
theorem splitL_at (z : UInt8) (k : Nat) (a b : List UInt8) (h : z ∉ a) : Lib.splitK [z] 0 (k + 1) (a ++ z :: b) = a :: Lib.splitK [z] 0 k b := by
  rw [Lib.splitK, indexL_at z a b h]
  have hne : ((a.length : Int) == -1) = false := by simp
  rw [hne]
  simp
theorem pieceL_le (sep : List UInt8) : ∀ (k : Nat) (s p : List UInt8), p ∈ Lib.splitK sep 0 k s → p.length ≤ s.length
  | 0, s, p, h => by simp [Lib.splitK] at h; rw [h]; exact Nat.le_refl _
  | k + 1, s, p, h => by
    rw [Lib.splitK] at h
    split at h
    · simp at h; rw [h]; exact Nat.le_refl _
    · rcases List.mem_cons.1 h with h | h
      · rw [h, List.length_take]; omega
      · have := pieceL_le sep k _ p h
        rw [List.length_drop] at this; omega
/-- Parts with a blank between. -/
def joinB : List (List UInt8) → List UInt8
  | [] => []
  | [a] => a
  | a :: b :: l => a ++ 32 :: joinB (b :: l)
theorem index_spec (c : UInt8) : ∀ (s : List UInt8), (Lib.index s [c] = -1) ∨ ∃ a b, s = a ++ c :: b ∧ c ∉ a
  | [] => Or.inl (by simp [Lib.index])
  | x :: s => by
    by_cases e : x = c
    · subst e; exact Or.inr ⟨[], s, rfl, by simp⟩
    · rcases index_spec c s with h | ⟨a, b, rfl, hn⟩
      · left
        have hp : ([c] : List UInt8).isPrefixOf (x :: s) = false := by simp [List.isPrefixOf]; exact fun h => e h.symm
        rw [Lib.index, hp, h]
        simp
      · exact Or.inr ⟨x :: a, b, rfl, by simp [hn]; exact fun h => e h.symm⟩
theorem splitK_ne (c : UInt8) (k : Nat) (s : List UInt8) : Lib.splitK [c] 0 k s ≠ [] := by
  cases k with
  | zero => simp [Lib.splitK]
  | succ k => unfold Lib.splitK; split <;> simp
theorem joinB_cons (a : List UInt8) {l : List (List UInt8)} (h : l ≠ []) : joinB (a :: l) = a ++ 32 :: joinB l := by
  cases l with
  | nil => exact absurd rfl h
  | cons b l => rfl
theorem join_split : ∀ (k : Nat) (s : List UInt8), joinB (Lib.splitK [32] 0 k s) = s
  | 0, s => rfl
  | k + 1, s => by
    rcases index_spec 32 s with h | ⟨a, b, rfl, hn⟩
    · rw [Lib.splitK, h]; rfl
    · rw [splitL_at 32 k a b hn, joinB_cons _ (splitK_ne _ _ _), join_split k b]
/-- The accounts. -/
def accL : List ByteArray := [aGain, aLate, aLoss, aSold, aStock, aSupply]
theorem accL_sz {x : ByteArray} (h : x ∈ accL) : x.size ≤ 1000 ∧ x.size ≠ 0 ∧ (32 : UInt8) ∉ x.data.toList := by
  simp only [accL, List.mem_cons, List.not_mem_nil, or_false] at h
  rcases h with rfl | rfl | rfl | rfl | rfl | rfl <;> decide
/-- A posting that may be read. -/
structure Vp (p : Pst) : Prop where
  a1 : 1 ≤ p.amt
  a2 : p.amt ≤ 1000000000000
  d : p.deb ∈ accL
  c : p.cre ∈ accL
  ne : p.deb ≠ p.cre
def tline (p : Pst) : List UInt8 := byt (amt p.amt) ++ 32 :: (p.deb.data.toList ++ 32 :: ([102, 114, 111, 109] ++ 32 :: p.cre.data.toList))
theorem pline_t (p : Pst) : pline p = tline p ++ [10] := by
  unfold pline tline
  simp
theorem dgL_digs : ∀ (k : Nat) (n : Int), ∀ x ∈ byt (dg k n), 48 ≤ x.toNat ∧ x.toNat ≤ 57
  | 0, n, x, h => by simp [dg, byt] at h
  | k + 1, n, x, h => by
    simp only [dg] at h
    rw [byt_cons, List.mem_cons] at h
    rcases h with rfl | h
    · have e : (48 + dv k n % 10).toNat = 48 + (dv k n % 10).toNat := by omega
      rw [e, UInt8.toNat_ofNat']
      omega
    · exact dgL_digs k n x h
theorem amt_no (n : Int) (c : UInt8) (hc : c.toNat < 45) : c ∉ byt (amt n) := by
  intro h
  unfold amt amtSize at h
  rw [byt_append, byt_append, byt_cons, List.mem_append, List.mem_append, List.mem_cons] at h
  rcases h with h | h | h | h
  · split at h
    · have : c = 45 := by simpa [byt] using h
      subst this
      exact absurd hc (by decide)
    · simp [byt] at h
  · have := dgL_digs _ _ c h; omega
  · have : c = 46 := by rw [h]; rfl
    subst this
    exact absurd hc (by decide)
  · have := dgL_digs _ _ c h; omega
theorem split_tline {p : Pst} (h : Vp p) : Lib.splitK [32] 0 3 (tline p) = [byt (amt p.amt), p.deb.data.toList, [102, 114, 111, 109], p.cre.data.toList] := by
  unfold tline
  rw [splitL_at 32 2 _ _ (amt_no _ 32 (by decide)), splitL_at 32 1 _ _ (accL_sz h.d).2.2, splitL_at 32 0 _ _ (by decide)]
  rfl
theorem tline_len (p : Pst) : 3 ≤ (tline p).length := by
  unfold tline
  simp only [List.length_append, List.length_cons]
  omega
theorem Vp.parsed {p : Pst} (h : Vp p) : parsed (byt (amt p.amt)) = some p.amt := parsed_amt p.amt (by have := h.a1; omega) h.a2
/-- Lines tell postings apart. -/
theorem pline_inj {p q : Pst} (hp : Vp p) (hq : Vp q) (h : pline p = pline q) : p = q := by
  rw [pline_t, pline_t] at h
  have h2 := List.append_cancel_right h
  have h3 := split_tline hp
  rw [h2, split_tline hq] at h3
  simp only [List.cons.injEq, and_true, true_and] at h3
  obtain ⟨e1, e2, e3⟩ := h3
  have a1 := hp.parsed
  rw [← e1, hq.parsed] at a1
  obtain ⟨d, c, n⟩ := p
  obtain ⟨d', c', n'⟩ := q
  simp only at e2 e3 a1
  have x1 : d' = d := ByteArray.ext (Array.toList_inj.1 e2)
  have x2 : c' = c := ByteArray.ext (Array.toList_inj.1 e3)
  injection a1 with a1
  rw [x1, x2, a1]
end Go.Proofs.YtppamojkhkdfpaaDoor
