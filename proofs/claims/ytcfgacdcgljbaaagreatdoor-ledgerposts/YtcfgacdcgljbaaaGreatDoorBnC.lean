/- The value of a text of digits. No walk. The walk of money.value. The walk of money.Parse. The plain mathematics of amounts as text: what an amount is written as is read as that amount. Which posting a line is, in plain mathematics. -/
import Derived.Test.YtcfgacdcgljbaaaGreatDoorBnA
import Derived.Test.YtcfgacdcgljbaaaGreatDoorBnB
import Derived.Lib.SplitLaws
import Derived.Lib.CountLaws
namespace Go.Proofs.YtcfgacdcgljbaaaGreatDoor
open Go.RowKit
def val1 (n : Int) (c : UInt8) : Int := if 48 ≤ (c.toNat : Int) ∧ (c.toNat : Int) ≤ 57 then n * 10 + ((c.toNat : Int) - 48) else n
/-- The number that the digits of a text make. -/
def val (l : List UInt8) : Int := l.foldl val1 0
theorem val_snoc (l : List UInt8) (c : UInt8) : val (l ++ [c]) = val1 (val l) c := by simp [val]
/-- The number of a text, below 0 behind a sign. -/
def sval (l : List UInt8) : Int := if l.head? = some 45 then -val l else val l
theorem val1_bd (n : Int) (c : UInt8) (h : 0 ≤ n) : 0 ≤ val1 n c ∧ val1 n c ≤ n * 10 + 9 := by
  unfold val1; split <;> omega
theorem val_bd : ∀ (m : Nat) (l : List UInt8), l.length = m → 0 ≤ val l ∧ val l < 10 ^ m
  | 0, l, h => by
    have : l = [] := List.eq_nil_of_length_eq_zero h
    subst this; simp [val]
  | m + 1, l, h => by
    obtain ⟨l', c, rfl⟩ : ∃ l' c, l = l' ++ [c] := by
      rcases List.eq_nil_or_concat l with rfl | ⟨l', c, rfl⟩
      · simp at h
      · exact ⟨l', c, by simp⟩
    have ih := val_bd m l' (by simpa using h)
    have := val1_bd (val l') c ih.1
    rw [val_snoc, Int.pow_succ]
    omega
theorem take_snoc (s : ByteArray) (k : Nat) (h : k < s.size) : s.data.toList.take (k + 1) = s.data.toList.take k ++ [s[k]] := by
  rw [List.take_succ_eq_append_getElem (by simpa using h)]; rfl
end Go.Proofs.YtcfgacdcgljbaaaGreatDoor
namespace Go.Proofs.YtcfgacdcgljbaaaGreatDoor
open Go.RowKit
theorem val_bd15 (l : List UInt8) (h : l.length ≤ 15) : 0 ≤ val l ∧ val l ≤ 1000000000000000 := by
  have h1 := val_bd l.length l rfl
  have h2 : (10 : Int) ^ l.length ≤ 10 ^ 15 := by
    have : (10 : Nat) ^ l.length ≤ 10 ^ 15 := Nat.pow_le_pow_right (by omega) h
    exact_mod_cast this
  have h3 : (10 : Int) ^ 15 = 1000000000000000 := by decide
  omega
theorem head_is (s : ByteArray) (h : 0 < s.size) : s.data.toList.head? = some s[0] := by
  rw [List.head?_eq_getElem?, List.getElem?_eq_getElem (by simpa using h)]; rfl
set_option maxHeartbeats 1000000 in
theorem value_any (s : ByteArray) (w : World) (hs : s.size ≤ 15) :
    Calls Tryz.prog 196 #[.string s] w fun e w' => e = .returned (.int .i64 (sval s.data.toList)) ∧ w' = w := by
  go_enter Tryz.func196, Tryz.ntmps196
  go_wp2
  go_loop [3, 7] (fun n i => ∃ k : Nat, k ≤ s.size ∧ i = .int .i64 k ∧ n = .int .i64 (val (s.data.toList.take k))) (fun _ i => s.size - (intOf i).toNat)
  case atStart => exact ⟨0, Nat.zero_le _, rfl, rfl⟩
  case round =>
    obtain ⟨k, hk, rfl, rfl⟩ := hrel
    have hl : (s.data.toList.take k).length ≤ 15 := by
      have := List.length_take_le k s.data.toList; omega
    have hd := val_bd15 _ hl
    by_cases hlt : k < s.size
    · have HS : Hid (val (s.data.toList.take (k + 1)) = val1 (val (s.data.toList.take k)) s[k]) := by rw [take_snoc s k hlt]; exact val_snoc _ _
      by_cases c1 : 48 ≤ (s[k].toNat : Int)
      · by_cases c2 : (s[k].toNat : Int) ≤ 57
        · go_wp2
          go_round
          case rel => exact ⟨k + 1, by omega, by go_num, by rw [HS.out, val1, if_pos ⟨c1, c2⟩]⟩
          case measure => simp [intOf]; omega
        · go_wp2
          go_round
          case rel => exact ⟨k + 1, by omega, by go_num, by rw [HS.out, val1, if_neg (by omega)]⟩
          case measure => simp [intOf]; omega
      · go_wp2
        go_round
        case rel => exact ⟨k + 1, by omega, by go_num, by rw [HS.out, val1, if_neg (by omega)]⟩
        case measure => simp [intOf]; omega
    · have ht : s.data.toList.take k = s.data.toList := List.take_of_length_le (by simp; omega)
      rw [ht] at hd ⊢
      clear ht hl
      by_cases hp : 0 < s.size
      · have hh := head_is s hp
        by_cases c : (s[0].toNat : Int) = 45
        · have HM : Hid (-val s.data.toList = sval s.data.toList) := by
            have : s[0] = 45 := by apply UInt8.toNat_inj.mp; show s[0].toNat = 45; omega
            show _ = sval _
            simp [sval, hh, this]
          clear hh
          go_wp2
          go_ret
          exact ⟨ret_int HM.out, rfl⟩
        · have HM : Hid (val s.data.toList = sval s.data.toList) := by
            have : s[0] ≠ 45 := by intro e; rw [e] at c; exact c rfl
            show _ = sval _
            simp [sval, hh, this]
          clear hh
          go_wp2
          go_ret
          exact ⟨ret_int HM.out, rfl⟩
      · have HM : Hid (val s.data.toList = sval s.data.toList) := by
          have : s.data.toList = [] := List.eq_nil_of_length_eq_zero (by rw [Array.length_toList]; show s.size = 0; omega)
          show _ = sval _
          simp [sval, this]
        go_wp2
        go_ret
        exact ⟨ret_int HM.out, rfl⟩
theorem sval_bd (l : List UInt8) (h : l.length ≤ 15) : -1000000000000000 ≤ sval l ∧ sval l ≤ 1000000000000000 := by
  have := val_bd15 l h
  unfold sval; split <;> omega
end Go.Proofs.YtcfgacdcgljbaaaGreatDoor
namespace Go.Proofs.YtcfgacdcgljbaaaGreatDoor
open Go.RowKit
theorem eql_iff (a b : ByteArray) : (a.toList == b.toList) = decide (a.data.toList = b.data.toList) := by
  rw [ByteArray.toList_eq, ByteArray.toList_eq, Bool.eq_iff_iff]; simp
/-- What Parse reads: a number, or nothing. -/
def parsed (l : List UInt8) : Option Int :=
  if l.length ≤ 15 ∧ -1000000000000 ≤ sval l ∧ sval l ≤ 1000000000000 ∧ byt (amt (sval l)) = l then some (sval l) else none
theorem parsed_some {l : List UInt8} {n : Int} (h : parsed l = some n) : l.length ≤ 15 ∧ -1000000000000 ≤ n ∧ n ≤ 1000000000000 ∧ byt (amt n) = l ∧ n = sval l := by
  unfold parsed at h
  split at h
  · rename_i hh; simp at h; subst h; exact ⟨hh.1, hh.2.1, hh.2.2.1, hh.2.2.2, rfl⟩
  · simp at h
set_option maxHeartbeats 1000000 in
theorem parse_ok (s : ByteArray) (n : Int) (w : World) (h : parsed s.data.toList = some n) :
    Calls Tryz.prog 132 #[.string s] w fun e w' => e = .returned (.tuple #[.int .i64 n, .nilIface]) ∧ Below w.heap.size w w' := by
  obtain ⟨h1, h2, h3, h4, rfl⟩ := parsed_some h
  have h15 : s.size ≤ 15 := by simpa using h1
  have hcmp : ((strOfNums (amt (sval s.data.toList))).toList == s.toList) = true := by
    rw [eql_iff]; exact decide_eq_true h4
  clear h h1 h4
  go_enter Tryz.func132, Tryz.ntmps132
  go_wp2_with (first | (go_at_call 196; refine (value_any s _ h15).mono ?_; rintro e w' ⟨rfl, rfl⟩) | (go_at_call 67; refine (print_any _ _ (by omega) (by omega)).mono ?_; rintro e w1 ⟨rfl, hb1⟩))
  go_ret2
  exact ⟨rfl, hb1⟩
set_option maxHeartbeats 1000000 in
theorem parse_bad (s : ByteArray) (w : World) (hs : s.size ≤ maxLen) (h : parsed s.data.toList = none) :
    Calls Tryz.prog 132 #[.string s] w fun e w' => e = .returned (.tuple #[.int .i64 0, .iface 47 (.int .i64 3)]) ∧ Below w.heap.size w w' := by
  unfold maxLen at hs
  by_cases h15 : s.size ≤ 15
  · have hb := sval_bd s.data.toList (by simpa using h15)
    by_cases h2 : -1000000000000 ≤ sval s.data.toList
    · by_cases h3 : sval s.data.toList ≤ 1000000000000
      · have hcmp : ((strOfNums (amt (sval s.data.toList))).toList == s.toList) = false := by
          rw [eql_iff]; apply decide_eq_false; intro h4
          unfold parsed at h; rw [if_pos ⟨by simpa using h15, h2, h3, h4⟩] at h; simp at h
        clear h
        go_enter Tryz.func132, Tryz.ntmps132
        go_wp2_with (first | (go_at_call 196; refine (value_any s _ h15).mono ?_; rintro e w' ⟨rfl, rfl⟩) | (go_at_call 67; refine (print_any _ _ (by omega) (by omega)).mono ?_; rintro e w1 ⟨rfl, hb1⟩))
        go_ret2
        exact ⟨rfl, hb1⟩
      · clear h
        go_enter Tryz.func132, Tryz.ntmps132
        go_wp2_with (first | (go_at_call 196; refine (value_any s _ h15).mono ?_; rintro e w' ⟨rfl, rfl⟩))
        go_ret2
        exact ⟨rfl, Below.refl _ _⟩
    · clear h
      go_enter Tryz.func132, Tryz.ntmps132
      go_wp2_with (first | (go_at_call 196; refine (value_any s _ h15).mono ?_; rintro e w' ⟨rfl, rfl⟩))
      go_ret2
      exact ⟨rfl, Below.refl _ _⟩
  · clear h
    go_enter Tryz.func132, Tryz.ntmps132
    go_wp2
    go_ret2
    exact ⟨rfl, Below.refl _ _⟩
end Go.Proofs.YtcfgacdcgljbaaaGreatDoor
namespace Go.Proofs.YtcfgacdcgljbaaaGreatDoor
theorem dv_nat : ∀ (k q : Nat), dv k (q : Int) = ((q / 10 ^ k : Nat) : Int)
  | 0, q => by simp [dv]
  | k + 1, q => by
    simp only [dv]
    rw [dv_nat k q, Nat.pow_succ, ← Nat.div_div_eq_div_mul]
    omega
theorem byt_append (a b : List Int) : byt (a ++ b) = byt a ++ byt b := by simp [byt]
theorem byt_cons (a : Int) (b : List Int) : byt (a :: b) = UInt8.ofNat a.toNat :: byt b := rfl
theorem byt_length (a : List Int) : (byt a).length = a.length := by simp [byt]
theorem dig_nat (d : Nat) (h : d < 10) : (UInt8.ofNat (48 + (d : Int)).toNat).toNat = 48 + d := by
  have : (48 + (d : Int)).toNat = 48 + d := by omega
  rw [this]; simp; omega
theorem val1_dig (x : Int) (d : Nat) (h : d < 10) : val1 x (UInt8.ofNat (48 + (d : Int)).toNat) = x * 10 + d := by
  unfold val1; rw [dig_nat d h]; rw [if_pos (by omega)]; omega
theorem fold_dg : ∀ (k q : Nat) (x : Int), (byt (dg k (q : Int))).foldl val1 x = x * 10 ^ k + ((q % 10 ^ k : Nat) : Int)
  | 0, q, x => by simp [dg, byt, Nat.mod_one]
  | k + 1, q, x => by
    have e : 48 + dv k (q : Int) % 10 = 48 + ((q / 10 ^ k % 10 : Nat) : Int) := by rw [dv_nat]; omega
    simp only [dg]
    rw [byt_cons, List.foldl_cons, e, val1_dig x _ (Nat.mod_lt _ (by omega)), fold_dg k q, Nat.mod_pow_succ, Int.pow_succ, Int.add_mul]
    rw [Int.mul_assoc, Int.mul_comm 10 (10 ^ k), Int.add_assoc]
    congr 1
    rw [Int.natCast_add, Int.natCast_mul, Int.natCast_pow, Int.mul_comm, Int.add_comm]
    rfl
theorem wdN_lt : ∀ (m n : Nat), n ≤ m → n < 10 ^ wdN n
  | m, n, h => by
    by_cases hn : n < 10
    · rw [wdN_small n hn]; omega
    · have hm : n / 10 < n := by omega
      match m, h with
      | 0, h => omega
      | m + 1, h =>
        have := wdN_lt m (n / 10) (by omega)
        rw [wdN_big n (by omega), Nat.pow_succ]; omega
theorem val_amtSize (m : Nat) (x : Int) (hx : x = 0) : (byt (amtSize m)).foldl val1 x = (m : Int) := by
  subst hx
  unfold amtSize
  rw [byt_append, List.foldl_append, fold_dg, byt_cons, List.foldl_cons]
  have h46 : ∀ y : Int, val1 y (UInt8.ofNat (46 : Int).toNat) = y := by intro y; simp [val1]
  rw [h46, fold_dg, Nat.mod_eq_of_lt (wdN_lt _ (m / 100) (Nat.le_refl _))]
  have : ((m % 100 % 10 ^ 2 : Nat) : Int) = (m : Int) % 100 := by omega
  rw [this]
  omega
theorem amtSize_head (m : Nat) : ∃ d l, d < 10 ∧ byt (amtSize m) = UInt8.ofNat (48 + ((d : Nat) : Int)).toNat :: l := by
  unfold amtSize
  have hw := wdN_le (m / 100 + 1) (m / 100) (Nat.lt_of_lt_of_le (Nat.lt_pow_self (by omega : 1 < 10)) (Nat.pow_le_pow_right (by omega) (by omega))) (by omega)
  obtain ⟨k, hk⟩ : ∃ k, wdN (m / 100) = k + 1 := ⟨wdN (m / 100) - 1, by omega⟩
  rw [hk]
  refine ⟨(m / 100) / 10 ^ k % 10, byt (dg k ((m / 100 : Nat) : Int) ++ 46 :: dg 2 ((m % 100 : Nat) : Int)), Nat.mod_lt _ (by omega), ?_⟩
  simp only [dg, List.cons_append]
  rw [byt_cons, dv_nat]
  rfl
theorem amtSize_length (m : Nat) : (amtSize m).length = wdN (m / 100) + 3 := by
  simp [amtSize, dg_length]
/-- What an amount is written as is read as that amount. -/
theorem sval_amt (n : Int) : sval (byt (amt n)) = n := by
  unfold amt
  by_cases h : n < 0
  · rw [if_pos h, byt_append]
    have e : byt [45] = [45] := rfl
    rw [e]
    unfold sval
    rw [if_pos (by simp)]
    unfold val
    rw [List.foldl_append]
    have e2 : List.foldl val1 0 [45] = 0 := by simp [val1]
    rw [e2, val_amtSize _ _ rfl]; omega
  · rw [if_neg h, List.nil_append]
    obtain ⟨d, l, hd, hl⟩ := amtSize_head n.natAbs
    unfold sval
    rw [if_neg]
    · unfold val; rw [val_amtSize _ _ rfl]; omega
    · rw [hl]
      simp only [List.head?_cons, Option.some.injEq]
      intro e
      have := dig_nat d hd
      rw [e] at this
      have h45 : (45 : UInt8).toNat = 45 := rfl
      omega
theorem amt_length (n : Int) (h0 : -1000000000000 ≤ n) (h1 : n ≤ 1000000000000) : (byt (amt n)).length ≤ 15 := by
  rw [byt_length]
  unfold amt
  rw [List.length_append, amtSize_length]
  have := wdN_le 11 (n.natAbs / 100) (by omega) (by omega)
  split <;> simp <;> omega
theorem parsed_amt (n : Int) (h0 : -1000000000000 ≤ n) (h1 : n ≤ 1000000000000) : parsed (byt (amt n)) = some n := by
  unfold parsed
  rw [sval_amt, if_pos ⟨amt_length n h0 h1, h0, h1, rfl⟩]
end Go.Proofs.YtcfgacdcgljbaaaGreatDoor
namespace Go.Proofs.YtcfgacdcgljbaaaGreatDoor
open Go.RowKit
theorem indexL_at (z : UInt8) : ∀ (a b : List UInt8), z ∉ a → Lib.index (a ++ z :: b) [z] = (a.length : Int)
  | [], b, _ => by simp [Lib.index]
  | x :: a, b, h => by
    have hx : ¬ z = x := by intro e; apply h; rw [e]; exact List.mem_cons_self
    have ih := indexL_at z a b (fun hm => h (List.mem_cons_of_mem _ hm))
    have hp : ([z] : List UInt8).isPrefixOf (x :: (a ++ z :: b)) = false := by simp [List.isPrefixOf, hx]
    rw [List.cons_append, Lib.index, hp, ih]
    have hne : ((a.length : Int) == -1) = false := by simp
    rw [hne]
    simp
theorem indexL_not (z : UInt8) : ∀ (a : List UInt8), z ∉ a → Lib.index a [z] = -1
  | [], _ => by simp [Lib.index]
  | x :: a, h => by
    have hx : ¬ z = x := by intro e; apply h; rw [e]; exact List.mem_cons_self
    have ih := indexL_not z a (fun hm => h (List.mem_cons_of_mem _ hm))
    have hp : ([z] : List UInt8).isPrefixOf (x :: a) = false := by simp [List.isPrefixOf, hx]
    rw [Lib.index, hp, ih]
    simp
theorem splitL_at (z : UInt8) (k : Nat) (a b : List UInt8) (h : z ∉ a) : Lib.splitK [z] 0 (k + 1) (a ++ z :: b) = a :: Lib.splitK [z] 0 k b := by
  rw [Lib.splitK, indexL_at z a b h]
  have hne : ((a.length : Int) == -1) = false := by simp
  rw [hne]
  simp
theorem pieceL_le (sep : List UInt8) : ∀ (k : Nat) (s p : List UInt8), p ∈ Lib.splitK sep 0 k s → p.length ≤ s.length
  | 0, s, p, h => by simp [Lib.splitK] at h; rw [h]; exact Nat.le_refl _
  | k + 1, s, p, h => by
    rw [Lib.splitK] at h
    split at h
    · simp at h; rw [h]; exact Nat.le_refl _
    · rcases List.mem_cons.1 h with h | h
      · rw [h, List.length_take]; omega
      · have := pieceL_le sep k _ p h
        rw [List.length_drop] at this; omega
/-- Parts with a blank between. -/
def joinB : List (List UInt8) → List UInt8
  | [] => []
  | [a] => a
  | a :: b :: l => a ++ 32 :: joinB (b :: l)
theorem index_spec (c : UInt8) : ∀ (s : List UInt8), (Lib.index s [c] = -1) ∨ ∃ a b, s = a ++ c :: b ∧ c ∉ a
  | [] => Or.inl (by simp [Lib.index])
  | x :: s => by
    by_cases e : x = c
    · subst e; exact Or.inr ⟨[], s, rfl, by simp⟩
    · rcases index_spec c s with h | ⟨a, b, rfl, hn⟩
      · left
        have hp : ([c] : List UInt8).isPrefixOf (x :: s) = false := by simp [List.isPrefixOf]; exact fun h => e h.symm
        rw [Lib.index, hp, h]
        simp
      · exact Or.inr ⟨x :: a, b, rfl, by simp [hn]; exact fun h => e h.symm⟩
theorem splitK_ne (c : UInt8) (k : Nat) (s : List UInt8) : Lib.splitK [c] 0 k s ≠ [] := by
  cases k with
  | zero => simp [Lib.splitK]
  | succ k => unfold Lib.splitK; split <;> simp
theorem joinB_cons (a : List UInt8) {l : List (List UInt8)} (h : l ≠ []) : joinB (a :: l) = a ++ 32 :: joinB l := by
  cases l with
  | nil => exact absurd rfl h
  | cons b l => rfl
theorem join_split : ∀ (k : Nat) (s : List UInt8), joinB (Lib.splitK [32] 0 k s) = s
  | 0, s => rfl
  | k + 1, s => by
    rcases index_spec 32 s with h | ⟨a, b, rfl, hn⟩
    · rw [Lib.splitK, h]; rfl
    · rw [splitL_at 32 k a b hn, joinB_cons _ (splitK_ne _ _ _), join_split k b]
/-- The accounts. -/
def accL : List ByteArray := [aGain, aLate, aLoss, aSold, aStock, aSupply]
theorem accL_sz {x : ByteArray} (h : x ∈ accL) : x.size ≤ 1000 ∧ x.size ≠ 0 ∧ (32 : UInt8) ∉ x.data.toList := by
  simp only [accL, List.mem_cons, List.not_mem_nil, or_false] at h
  rcases h with rfl | rfl | rfl | rfl | rfl | rfl <;> decide
/-- A posting that may be read. -/
structure Vp (p : Pst) : Prop where
  a1 : 1 ≤ p.amt
  a2 : p.amt ≤ 1000000000000
  d : p.deb ∈ accL
  c : p.cre ∈ accL
  ne : p.deb ≠ p.cre
def tline (p : Pst) : List UInt8 := byt (amt p.amt) ++ 32 :: (p.deb.data.toList ++ 32 :: ([102, 114, 111, 109] ++ 32 :: p.cre.data.toList))
theorem pline_t (p : Pst) : pline p = tline p ++ [10] := by
  unfold pline tline
  simp
theorem dgL_digs : ∀ (k : Nat) (n : Int), ∀ x ∈ byt (dg k n), 48 ≤ x.toNat ∧ x.toNat ≤ 57
  | 0, n, x, h => by simp [dg, byt] at h
  | k + 1, n, x, h => by
    simp only [dg] at h
    rw [byt_cons, List.mem_cons] at h
    rcases h with rfl | h
    · have e : (48 + dv k n % 10).toNat = 48 + (dv k n % 10).toNat := by omega
      rw [e, UInt8.toNat_ofNat']
      omega
    · exact dgL_digs k n x h
theorem amt_no (n : Int) (c : UInt8) (hc : c.toNat < 45) : c ∉ byt (amt n) := by
  intro h
  unfold amt amtSize at h
  rw [byt_append, byt_append, byt_cons, List.mem_append, List.mem_append, List.mem_cons] at h
  rcases h with h | h | h | h
  · split at h
    · have : c = 45 := by simpa [byt] using h
      subst this
      exact absurd hc (by decide)
    · simp [byt] at h
  · have := dgL_digs _ _ c h; omega
  · have : c = 46 := by rw [h]; rfl
    subst this
    exact absurd hc (by decide)
  · have := dgL_digs _ _ c h; omega
theorem split_tline {p : Pst} (h : Vp p) : Lib.splitK [32] 0 3 (tline p) = [byt (amt p.amt), p.deb.data.toList, [102, 114, 111, 109], p.cre.data.toList] := by
  unfold tline
  rw [splitL_at 32 2 _ _ (amt_no _ 32 (by decide)), splitL_at 32 1 _ _ (accL_sz h.d).2.2, splitL_at 32 0 _ _ (by decide)]
  rfl
theorem tline_len (p : Pst) : 3 ≤ (tline p).length := by
  unfold tline
  simp only [List.length_append, List.length_cons]
  omega
theorem Vp.parsed {p : Pst} (h : Vp p) : parsed (byt (amt p.amt)) = some p.amt := parsed_amt p.amt (by have := h.a1; omega) h.a2
/-- Lines tell postings apart. -/
theorem pline_inj {p q : Pst} (hp : Vp p) (hq : Vp q) (h : pline p = pline q) : p = q := by
  rw [pline_t, pline_t] at h
  have h2 := List.append_cancel_right h
  have h3 := split_tline hp
  rw [h2, split_tline hq] at h3
  simp only [List.cons.injEq, and_true, true_and] at h3
  obtain ⟨e1, e2, e3⟩ := h3
  have a1 := hp.parsed
  rw [← e1, hq.parsed] at a1
  obtain ⟨d, c, n⟩ := p
  obtain ⟨d', c', n'⟩ := q
  simp only at e2 e3 a1
  have x1 : d' = d := ByteArray.ext (Array.toList_inj.1 e2)
  have x2 : c' = c := ByteArray.ext (Array.toList_inj.1 e3)
  injection a1 with a1
  rw [x1, x2, a1]
end Go.Proofs.YtcfgacdcgljbaaaGreatDoor
