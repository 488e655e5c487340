/- Numerals read by strconv.Atoi, and texts parted at a sign, in plain mathematics. No walk. -/
import Derived.Test.YtapkandekfndoaaGreatDoorDateMath
import Derived.Lib.AtoiAll
import Derived.Lib.SplitLaws
import Derived.Lib.ItoaNum
import Derived.Lib.CountLaws
namespace Go.Proofs.YtapkandekfndoaaGreatDoor
/-- Only digits. -/
def Digs (l : List UInt8) : Prop := ∀ c ∈ l, 48 ≤ c.toNat ∧ c.toNat ≤ 57
def dnf (acc : Nat) (l : List UInt8) : Nat := l.foldl (fun a c => a * 10 + (c.toNat - 48)) acc
theorem dnf_ge : ∀ (l : List UInt8) (acc : Nat), acc ≤ dnf acc l
  | [], acc => Nat.le_refl _
  | c :: l, acc => by
    have := dnf_ge l (acc * 10 + (c.toNat - 48))
    show acc ≤ dnf (acc * 10 + (c.toNat - 48)) l
    omega
theorem dnf_dval : ∀ (l : List UInt8) (acc : Nat), Digs l → l.foldl dval1 (acc : Int) = (dnf acc l : Int)
  | [], acc, _ => rfl
  | c :: l, acc, h => by
    have hc := h c List.mem_cons_self
    have e : dval1 (acc : Int) c = ((acc * 10 + (c.toNat - 48) : Nat) : Int) := by unfold dval1; omega
    rw [List.foldl_cons, e, dnf_dval l _ (fun x hx => h x (List.mem_cons_of_mem _ hx))]
    rfl
theorem dparse_digits : ∀ (l : List UInt8) (acc : Nat), Digs l → dnf acc l < 18446744073709551616 → Lib.parseUint10 acc l = .ok (dnf acc l)
  | [], acc, _, _ => rfl
  | c :: l, acc, h, hlt => by
    have hc := h c List.mem_cons_self
    have hge := dnf_ge l (acc * 10 + (c.toNat - 48))
    have e : dnf acc (c :: l) = dnf (acc * 10 + (c.toNat - 48)) l := rfl
    rw [e] at hlt ⊢
    unfold Lib.parseUint10
    rw [if_pos hc, if_neg (by omega), if_neg (by omega)]
    exact dparse_digits l _ (fun x hx => h x (List.mem_cons_of_mem _ hx)) hlt
/-- A numeral is read as its number. -/
theorem atoi_digs (l : List UInt8) (h : Digs l) (hne : l ≠ []) (hu : dval l ≤ 9223372036854775807) : Lib.atoiAll l = .ok (dval l) := by
  have hn : dval l = (dnf 0 l : Int) := dnf_dval l 0 h
  have hp : Lib.parseMag l = .ok (dnf 0 l) := by
    unfold Lib.parseMag; rw [if_neg hne, dparse_digits l 0 h (by omega)]
  rcases l with _ | ⟨c, r⟩
  · exact absurd rfl hne
  · have hc := h c List.mem_cons_self
    unfold Lib.atoiAll
    simp only []
    rw [if_neg (by omega), hp]
    simp only []
    rw [if_neg (by omega), if_neg (by omega), if_neg (by omega), hn]
/-- The first sign's place. -/
theorem index_at (z : UInt8) : ∀ (a b : List UInt8), z ∉ a → Lib.index (a ++ z :: b) [z] = (a.length : Int)
  | [], b, _ => by simp [Lib.index]
  | x :: a, b, h => by
    have hx : ¬ z = x := by intro e; apply h; rw [e]; exact List.mem_cons_self
    have ih := index_at z a b (fun hm => h (List.mem_cons_of_mem _ hm))
    have hp : ([z] : List UInt8).isPrefixOf (x :: (a ++ z :: b)) = false := by simp [List.isPrefixOf, hx]
    rw [List.cons_append, Lib.index, hp, ih]
    have hne : ((a.length : Int) == -1) = false := by simp
    rw [hne]
    simp
theorem index_not (z : UInt8) : ∀ (a : List UInt8), z ∉ a → Lib.index a [z] = -1
  | [], _ => by simp [Lib.index]
  | x :: a, h => by
    have hx : ¬ z = x := by intro e; apply h; rw [e]; exact List.mem_cons_self
    have ih := index_not z a (fun hm => h (List.mem_cons_of_mem _ hm))
    have hp : ([z] : List UInt8).isPrefixOf (x :: a) = false := by simp [List.isPrefixOf, hx]
    rw [Lib.index, hp, ih]
    simp
theorem count_at (z : UInt8) (a b : List UInt8) (h : z ∉ a) : Lib.count (a ++ z :: b) [z] = 1 + Lib.count b [z] := by
  rw [Lib.count_hit (by simp) (index_at z a b h)]
  simp
theorem split_at (z : UInt8) (k : Nat) (a b : List UInt8) (h : z ∉ a) : Lib.splitK [z] 0 (k + 1) (a ++ z :: b) = a :: Lib.splitK [z] 0 k b := by
  rw [Lib.splitK, index_at z a b h]
  have hne : ((a.length : Int) == -1) = false := by simp
  rw [hne]
  simp
/-- Three parts. -/
theorem split_three (z : UInt8) (a b c : List UInt8) (ha : z ∉ a) (hb : z ∉ b) (hc : z ∉ c) :
    Lib.count (a ++ z :: (b ++ z :: c)) [z] = 2 ∧ Lib.splitK [z] 0 2 (a ++ z :: (b ++ z :: c)) = [a, b, c] := by
  constructor
  · rw [count_at z a _ ha, count_at z b _ hb, Lib.count_miss (index_not z c hc)]
  · rw [split_at z 1 a _ ha, split_at z 0 b _ hb]; rfl
theorem piece_le (sep : List UInt8) : ∀ (k : Nat) (s p : List UInt8), p ∈ Lib.splitK sep 0 k s → p.length ≤ s.length
  | 0, s, p, h => by simp [Lib.splitK] at h; rw [h]; exact Nat.le_refl _
  | k + 1, s, p, h => by
    rw [Lib.splitK] at h
    split at h
    · simp at h; rw [h]; exact Nat.le_refl _
    · rcases List.mem_cons.1 h with h | h
      · rw [h, List.length_take]; omega
      · have := piece_le sep k _ p h
        rw [List.length_drop] at this; omega
/-- Numerals. -/
theorem dec_step (n : Nat) (h : 10 ≤ n) : Lib.decDigits n = Lib.decDigits (n / 10) ++ [UInt8.ofNat (48 + n % 10)] := by
  rw [Lib.decDigits, dif_neg (by omega)]
theorem dec_one (n : Nat) (h : n < 10) : Lib.decDigits n = [UInt8.ofNat (48 + n)] := by
  rw [Lib.decDigits, dif_pos h]
theorem itoa_nat (n : Nat) : Lib.itoa (n : Int) = Lib.decDigits n := by unfold Lib.itoa; rw [if_neg (by omega)]; rfl
theorem dec_four (n : Nat) (h : 1000 ≤ n) (h' : n < 10000) : Lib.decDigits n = bts (tw ((n : Int) / 100) ++ tw ((n : Int) % 100)) := by
  rw [dec_step n (by omega), dec_step (n / 10) (by omega), dec_step (n / 10 / 10) (by omega), dec_one (n / 10 / 10 / 10) (by omega)]
  simp only [bts, tw, List.map, List.cons_append, List.nil_append]
  congr 1
  · congr 1; omega
  congr 1
  · congr 1; omega
  congr 1
  · congr 1; omega
  congr 1
  · congr 1; omega
theorem dec_hundred (n : Nat) (h : n < 100) : Lib.decDigits (100 + n) = 49 :: bts (tw (n : Int)) := by
  rw [dec_step (100 + n) (by omega), dec_step ((100 + n) / 10) (by omega), dec_one ((100 + n) / 10 / 10) (by omega)]
  simp only [bts, tw, List.map, List.cons_append, List.nil_append]
  have e : (100 + n) / 10 / 10 = 1 := by omega
  rw [e]
  congr 1
  congr 1
  · congr 1; omega
  congr 1
  · congr 1; omega
theorem tw_digs (n : Int) (h : 0 ≤ n) (h' : n < 100) : Digs (bts (tw n)) := by
  have e1 := byte_val (48 + n / 10) (by omega) (by omega)
  have e2 := byte_val (48 + n % 10) (by omega) (by omega)
  intro c hc
  simp only [bts, tw, List.map, List.mem_cons, List.not_mem_nil, or_false] at hc
  rcases hc with rfl | rfl
  · omega
  · omega
theorem digs_append {a b : List UInt8} (ha : Digs a) (hb : Digs b) : Digs (a ++ b) := fun c hc => by
  rcases List.mem_append.1 hc with h | h
  · exact ha c h
  · exact hb c h
theorem digs_not {a : List UInt8} (h : Digs a) (z : UInt8) (hz : z.toNat < 48) : z ∉ a := fun hm => by
  have := h z hm; omega
theorem bts_app (a b : List Int) : bts (a ++ b) = bts a ++ bts b := by simp [bts]
theorem bts_con (a : Int) (b : List Int) : bts (a :: b) = UInt8.ofNat a.toNat :: bts b := rfl
theorem DT_parts (y m d : Int) : bts (dtx y m d) = bts (tw (y / 100) ++ tw (y % 100)) ++ 45 :: (bts (tw m) ++ 45 :: bts (tw d)) := by
  unfold dtx
  simp only [bts_app, bts_con, List.append_assoc]
  rfl
end Go.Proofs.YtapkandekfndoaaGreatDoor
