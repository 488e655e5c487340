/- The plain mathematics of reading an amount: without its point it is a numeral. -/
import Derived.Test.YtcfgacdcgljbaaaGreatDoorBnF
namespace Go.Proofs.YtcfgacdcgljbaaaGreatDoor
theorem index_pre : ∀ (a b : List UInt8), (46 : UInt8) ∉ a → Lib.index (a ++ 46 :: b) [46] = (a.length : Int)
  | [], b, _ => by simp [Lib.index]
  | x :: a, b, h => by
    have hx : ¬ (46 : UInt8) = x := by intro e; apply h; rw [e]; exact List.mem_cons_self
    have ih := index_pre a b (fun hm => h (List.mem_cons_of_mem _ hm))
    have hp : ([46] : List UInt8).isPrefixOf (x :: (a ++ 46 :: b)) = false := by simp [List.isPrefixOf, hx]
    rw [List.cons_append, Lib.index, hp, ih]
    have hne : ((a.length : Int) == -1) = false := by simp
    rw [hne]
    simp
theorem replace_pre (a b : List UInt8) (h : (46 : UInt8) ∉ a) : Lib.replace (a ++ 46 :: b) [46] [] 1 = a ++ b := by
  unfold Lib.replace
  have hne : (([46] : List UInt8) == []) = false := rfl
  rw [hne]
  have hc : 1 ≤ Lib.count (a ++ 46 :: b) [46] := by
    rw [Lib.count_one]; simp; omega
  have hn : Lib.replaceNum (a ++ 46 :: b) [46] 1 = 1 := by
    unfold Lib.replaceNum; rw [if_neg (by omega)]; rfl
  rw [hn, Lib.replaceK_hit [46] [] 0 _ a.length (index_pre a b h)]
  simp [Lib.replaceK]
def nfold (acc : Nat) (l : List UInt8) : Nat := l.foldl (fun a c => a * 10 + (c.toNat - 48)) acc
theorem nfold_ge : ∀ (l : List UInt8) (acc : Nat), acc ≤ nfold acc l
  | [], acc => Nat.le_refl _
  | c :: l, acc => by
    have := nfold_ge l (acc * 10 + (c.toNat - 48))
    show acc ≤ nfold (acc * 10 + (c.toNat - 48)) l
    omega
theorem nfold_val : ∀ (l : List UInt8) (acc : Nat), (∀ c ∈ l, 48 ≤ c.toNat ∧ c.toNat ≤ 57) → l.foldl val1 (acc : Int) = (nfold acc l : Int)
  | [], acc, _ => rfl
  | c :: l, acc, h => by
    have hc := h c List.mem_cons_self
    rw [List.foldl_cons, val1_digit _ _ hc]
    have e : (acc : Int) * 10 + ((c.toNat : Int) - 48) = ((acc * 10 + (c.toNat - 48) : Nat) : Int) := by omega
    rw [e, nfold_val l _ (fun x hx => h x (List.mem_cons_of_mem _ hx))]
    rfl
theorem parse_digits : ∀ (l : List UInt8) (acc : Nat), (∀ c ∈ l, 48 ≤ c.toNat ∧ c.toNat ≤ 57) → nfold acc l < 18446744073709551616 → Lib.parseUint10 acc l = .ok (nfold acc l)
  | [], acc, _, _ => rfl
  | c :: l, acc, h, hlt => by
    have hc := h c List.mem_cons_self
    have hge := nfold_ge l (acc * 10 + (c.toNat - 48))
    have e : nfold acc (c :: l) = nfold (acc * 10 + (c.toNat - 48)) l := rfl
    rw [e] at hlt ⊢
    unfold Lib.parseUint10
    rw [if_pos hc, if_neg (by omega), if_neg (by omega)]
    exact parse_digits l _ (fun x hx => h x (List.mem_cons_of_mem _ hx)) hlt
theorem atoi_digits (l : List UInt8) (u : Nat) (h : ∀ c ∈ l, 48 ≤ c.toNat ∧ c.toNat ≤ 57) (hne : l ≠ []) (hv : val l = (u : Int)) (hu : u ≤ 9223372036854775807) :
    Lib.atoiAll l = .ok (u : Int) ∧ Lib.atoiAll (45 :: l) = .ok (-(u : Int)) := by
  have hn : nfold 0 l = u := by
    have := nfold_val l 0 h
    have h2 : val l = (nfold 0 l : Int) := this
    omega
  have hp : Lib.parseMag l = .ok u := by
    unfold Lib.parseMag; rw [if_neg hne, parse_digits l 0 h (by omega), hn]
  constructor
  · rcases l with _ | ⟨c, r⟩
    · exact absurd rfl hne
    · have hc := h c List.mem_cons_self
      unfold Lib.atoiAll
      simp only []
      rw [if_neg (by omega), hp]
      simp only []
      rw [if_neg (by omega), if_neg (by omega), if_neg (by omega)]
  · unfold Lib.atoiAll
    simp only []
    rw [if_pos (by right; rfl), hp]
    have h45 : (45 : UInt8).toNat = 45 := rfl
    simp only []
    rw [if_neg (by rw [h45]; omega), if_neg (by omega), if_pos h45]
theorem dg2_dig (r : Nat) (h : r < 100) : ∀ c ∈ byt (dg 2 (r : Int)), 48 ≤ c.toNat ∧ c.toNat ≤ 57 := by
  intro c hc
  rw [dec2 r h] at hc
  simp only [List.mem_cons, List.not_mem_nil, or_false] at hc
  rcases hc with rfl | rfl
  · simp; omega
  · simp; omega
theorem size_dig (m : Nat) : ∀ c ∈ Lib.decDigits (m / 100) ++ byt (dg 2 ((m % 100 : Nat) : Int)), 48 ≤ c.toNat ∧ c.toNat ≤ 57 := by
  intro c hc
  rcases List.mem_append.1 hc with hc | hc
  · exact decDigits_dig _ _ (Nat.le_refl _) c hc
  · exact dg2_dig _ (Nat.mod_lt _ (by omega)) c hc
theorem size_val (m : Nat) : val (Lib.decDigits (m / 100) ++ byt (dg 2 ((m % 100 : Nat) : Int))) = (m : Int) := by
  unfold val
  rw [List.foldl_append, fold_dg]
  have := val_decDigits (m / 100) (m / 100) (Nat.le_refl _)
  unfold val at this
  rw [this]
  omega
theorem dec_no46 (u : Nat) : (46 : UInt8) ∉ Lib.decDigits u := by
  intro h
  have := decDigits_dig u u (Nat.le_refl _) _ h
  have h46 : (46 : UInt8).toNat = 46 := rfl
  omega
/-- What an amount is written as, without its point, is its numeral. -/
theorem atoi_amt (n : Int) (h0 : -1000000000000 ≤ n) (h1 : n ≤ 1000000000000) : Lib.atoiAll (Lib.replace (byt (amt n)) [46] [] 1) = .ok n := by
  have hz : byt (amtSize n.natAbs) = Lib.decDigits (n.natAbs / 100) ++ 46 :: byt (dg 2 ((n.natAbs % 100 : Nat) : Int)) := by
    unfold amtSize; rw [byt_append, byt_cons, byt_digits]; rfl
  have hne : Lib.decDigits (n.natAbs / 100) ++ byt (dg 2 ((n.natAbs % 100 : Nat) : Int)) ≠ [] := by
    intro h; exact digits_ne _ (List.append_eq_nil_iff.1 h).1
  have ha := atoi_digits _ n.natAbs (size_dig n.natAbs) hne (size_val n.natAbs) (by omega)
  by_cases h : n < 0
  · have e : byt (amt n) = (45 :: Lib.decDigits (n.natAbs / 100)) ++ 46 :: byt (dg 2 ((n.natAbs % 100 : Nat) : Int)) := by
      unfold amt; rw [if_pos h, byt_append, hz]; rfl
    rw [e, replace_pre _ _ (by
      intro hm
      rcases List.mem_cons.1 hm with hm | hm
      · exact absurd hm (by decide)
      · exact dec_no46 _ hm)]
    rw [List.cons_append, ha.2]
    congr 1; omega
  · have e : byt (amt n) = Lib.decDigits (n.natAbs / 100) ++ 46 :: byt (dg 2 ((n.natAbs % 100 : Nat) : Int)) := by
      unfold amt; rw [if_neg h, List.nil_append, hz]
    rw [e, replace_pre _ _ (dec_no46 _), ha.1]
    congr 1; omega
end Go.Proofs.YtcfgacdcgljbaaaGreatDoor
