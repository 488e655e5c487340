/- (Written by gen_rowpure.py.) Rows that are rotated, merged and sorted in blocks: the mathematics, without any walk. -/
import Derived.Test.YtmldaiofghpfdaaStMath
namespace Go.Proofs.Ytmldaiofghpfdaa
open Go.RowKit
open Go.Sort hiding Below
variable {α : Type} [Inhabited α]
section
variable {lt : α → α → Bool} {q : α → α → Prop}
theorem swo_asym {β : Type} {lt : β → β → Bool} (hS : SWO lt) {x y : β} (h : lt x y = true) : lt y x = false := by
  cases hh : lt y x with
  | false => rfl
  | true =>
    have := hS.irrefl x
    rw [hS.trans x y x h hh] at this
    cases this
/-- One, put into its place among those behind it. -/
theorem one_right (hS : SWO lt) {a b i : Nat} {d d' : Array α} (h2 : SortedIn lt (a + 1) b d) (hi : a + 1 ≤ i) (hib : i ≤ b) (hr : Rotated a (a + 1) i d d') (k1 : a + 1 < i → lt d[i - 1]! d[a]! = true) (k2 : i < b → lt d[i]! d[a]! = false) : SortedIn lt a b d' := by
  have h1 : SortedIn lt a (a + 1) d := SortedIn.empty d (Nat.le_refl _)
  have hc := cross_rot hS h1 h2 (i - 1) i (by omega) (Nat.le_refl a) (by omega) hi hib hr (fun h => absurd h (Nat.lt_irrefl a)) (fun _ h => swo_asym hS (k1 h))
  have hp := rot_parts h1 h2 (i - 1) i (by omega) (Nat.le_refl a) (by omega) hi hib hr
  refine sorted_join hp.2.1 (sorted_join (m := i) (SortedIn.empty d' (by omega)) hp.2.2.2 ?_) hc
  intro x y hx hxi hy hyb
  obtain rfl : x = i - 1 := by omega
  rw [hr y, hr (i - 1), if_neg (by omega), if_neg (by omega), if_neg (by omega), if_pos (by omega), at_eq d (show i - 1 - (i - (a + 1)) = a by omega)]
  exact le_trans' hS (k2 (by omega)) (SortedIn.le hS h2 hi hy hyb)
/-- One, put into its place among those ahead of it. -/
theorem one_left (hS : SWO lt) {a m i : Nat} {d d' : Array α} (h1 : SortedIn lt a m d) (hi : a ≤ i) (him : i ≤ m) (hr : Rotated i m (m + 1) d d') (k1 : a < i → lt d[m]! d[i - 1]! = false) (k2 : i < m → lt d[m]! d[i]! = true) : SortedIn lt a (m + 1) d' := by
  have h2 : SortedIn lt m (m + 1) d := SortedIn.empty d (Nat.le_refl _)
  have hc := cross_rot hS h1 h2 (i + 1) (m + 1) (by omega) hi him (by omega) (Nat.le_refl _) hr (fun _ h => absurd h (Nat.lt_irrefl _)) (fun h _ => swo_asym hS (k2 h))
  have hp := rot_parts h1 h2 (i + 1) (m + 1) (by omega) hi him (by omega) (Nat.le_refl _) hr
  refine sorted_join (sorted_join (m := i) hp.1 (SortedIn.empty d' (by omega)) ?_) hp.2.2.1 hc
  intro x y hx hxi hy hyb
  obtain rfl : y = i := by omega
  rw [hr y, hr x, if_pos (by omega), if_neg (by omega), if_neg (by omega), at_eq d (show y + (m - y) = m by omega)]
  exact le_trans' hS (SortedIn.le hS h1 hx (show x ≤ y - 1 by omega) (by omega)) (k1 (by omega))
theorem rot_right_step {a k : Nat} {d e : Array α} (h : Rotated a (a + 1) (k + 1) d e) (hak : a ≤ k) (hk : k + 1 < e.size) : Rotated a (a + 1) (k + 2) d (swp e k (k + 1)) := fun t => by
  rw [swp_get e (by omega) hk t, h k, h (k + 1), h t]
  repeat' split
  all_goals first | (exact at_eq d (by omega)) | (exfalso; omega)
theorem rot_left_step {k m : Nat} {d e : Array α} (h : Rotated (k + 1) m (m + 1) d e) (hkm : k + 1 ≤ m) (hm : m < e.size) : Rotated k m (m + 1) d (swp e (k + 1) k) := fun t => by
  rw [swp_get e (by omega) (by omega) t, h k, h (k + 1), h t]
  repeat' split
  all_goals first | (exact at_eq d (by omega)) | (exfalso; omega)
theorem sorted_out {a b x y : Nat} {d d' : Array α} (h : SortedIn lt x y d) (hp : PermIn a b d d') (ho : y ≤ a ∨ b ≤ x) : SortedIn lt x y d' := fun i j hi hij hj => by
  rw [hp.2.1 i (by omega), hp.2.1 j (by omega)]
  exact h i j hi hij hj
/-- Each block of B is sorted. -/
def Blk (lt : α → α → Bool) (B n : Nat) (d : Array α) : Prop := ∀ j x, x = B * j → SortedIn lt x (min (x + B) n) d
/-- Up to a the blocks of twice B are sorted, from there on those of B. -/
def Mrg (lt : α → α → Bool) (B n a : Nat) (d : Array α) : Prop := (∃ k, a = 2 * B * k) ∧ (∀ j x, x = 2 * B * j → x + 2 * B ≤ a → SortedIn lt x (x + 2 * B) d) ∧ (∀ j x, x = B * j → a ≤ x → SortedIn lt x (min (x + B) n) d)
/-- The first blocks of 20. -/
def Fst (lt : α → α → Bool) (a : Nat) (d : Array α) : Prop := (∃ k, a = 20 * k) ∧ ∀ j, 20 * j + 20 ≤ a → SortedIn lt (20 * j) (20 * j + 20) d
theorem fst_start (d : Array α) : Fst lt 0 d := ⟨⟨0, rfl⟩, fun j h => by omega⟩
theorem fst_step {a : Nat} {d d' : Array α} (h : Fst lt a d) (hs : SortedIn lt a (a + 20) d') (hp : PermIn a (a + 20) d d') : Fst lt (a + 20) d' := by
  obtain ⟨⟨k, hk⟩, h2⟩ := h
  refine ⟨⟨k + 1, by omega⟩, fun j hj => ?_⟩
  by_cases e : 20 * j + 20 ≤ a
  · exact sorted_out (h2 j e) hp (Or.inl e)
  · have : 20 * j = a := by omega
    rw [this]; exact hs
theorem fst_end {a n : Nat} {d d' : Array α} (h : Fst lt a d) (han : a ≤ n) (hna : n < a + 20) (hs : SortedIn lt a n d') (hp : PermIn a n d d') : Blk lt 20 n d' := by
  obtain ⟨⟨k, hk⟩, h2⟩ := h
  intro j x hx
  subst hx
  by_cases e : 20 * j + 20 ≤ a
  · rw [Nat.min_eq_left (by omega)]
    exact sorted_out (h2 j e) hp (Or.inl e)
  · by_cases e2 : 20 * j = a
    · rw [e2, Nat.min_eq_right (by omega)]; exact hs
    · exact SortedIn.empty _ (by omega)
theorem mrg_start {B n : Nat} {d : Array α} (hB : 0 < B) (h : Blk lt B n d) : Mrg lt B n 0 d := ⟨⟨0, rfl⟩, fun j x _ h2 => by omega, fun j x hx _ => h j x hx⟩
theorem mrg_here {B n a : Nat} {d : Array α} (h : Mrg lt B n a d) : SortedIn lt a (min (a + B) n) d ∧ SortedIn lt (a + B) (min (a + 2 * B) n) d := by
  obtain ⟨⟨k, hk⟩, _, h3⟩ := h
  have e1 : a = B * (2 * k) := by rw [hk, Nat.mul_comm 2 B, Nat.mul_assoc]
  refine ⟨h3 (2 * k) a e1 (Nat.le_refl _), ?_⟩
  have := h3 (2 * k + 1) (a + B) (by rw [e1, Nat.mul_add, Nat.mul_one]) (by omega)
  rwa [show a + B + B = a + 2 * B by omega] at this
theorem mul_near {c j k : Nat} (h1 : c * j ≤ c * k) (h2 : c * k < c * j + c) : j = k := by
  have h3 : c * k < c * (j + 1) := by rw [Nat.mul_add, Nat.mul_one]; exact h2
  have h4 := Nat.lt_of_mul_lt_mul_left h3
  have hc : 0 < c := by omega
  have h5 := Nat.le_of_mul_le_mul_left h1 hc
  omega
theorem mrg_step {B n a : Nat} {d d' : Array α} (h : Mrg lt B n a d) (hs : SortedIn lt a (a + 2 * B) d') (hp : PermIn a (a + 2 * B) d d') : Mrg lt B n (a + 2 * B) d' := by
  obtain ⟨⟨k, hk⟩, h2, h3⟩ := h
  refine ⟨⟨k + 1, by rw [hk, Nat.mul_add, Nat.mul_one]⟩, fun j x hx hl => ?_, fun j x hx hl => sorted_out (h3 j x hx (by omega)) hp (Or.inr hl)⟩
  by_cases e : x + 2 * B ≤ a
  · exact sorted_out (h2 j x hx e) hp (Or.inl e)
  · have : j = k := mul_near (c := 2 * B) (by omega) (by omega)
    have e2 : x = a := by rw [hx, hk, this]
    rw [e2]; exact hs
theorem mrg_end {B n a : Nat} {d d' : Array α} (h : Mrg lt B n a d) (han : a ≤ n) (hna : n < a + 2 * B) (hs : SortedIn lt a n d') (hp : PermIn a n d d') : Blk lt (2 * B) n d' := by
  obtain ⟨⟨k, hk⟩, h2, _⟩ := h
  intro j x hx
  by_cases e : x + 2 * B ≤ a
  · rw [Nat.min_eq_left (by omega)]
    exact sorted_out (h2 j x hx e) hp (Or.inl e)
  · by_cases e2 : x ≤ a
    · have : j = k := mul_near (c := 2 * B) (by omega) (by omega)
      have e3 : x = a := by rw [hx, hk, this]
      rw [e3, Nat.min_eq_right (by omega)]; exact hs
    · refine SortedIn.empty _ ?_
      rcases Nat.lt_or_ge x n with e4 | e4
      · have : k = j := mul_near (c := 2 * B) (by omega) (by omega)
        have e3 : x = a := by rw [hx, hk, this]
        omega
      · omega
/-- Those from k on came later than all ahead of them. -/
def Later (q : α → α → Prop) (a b k : Nat) (e : Array α) : Prop := ∀ s t, a ≤ s → s < t → t < b → k ≤ t → q e[t]! e[s]!
/-- The one at j came later than those ahead of it, and those from k on later than all ahead of them. -/
def Into (q : α → α → Prop) (a b k j : Nat) (e : Array α) : Prop := (∀ s, a ≤ s → s < j → q e[j]! e[s]!) ∧ Later q a b k e
theorem into_swap {q : α → α → Prop} {a b k i : Nat} {e : Array α} (h : Into q a b k (i + 1) e) (hs : i + 1 < e.size) (hk : i + 1 < k) (ha : a ≤ i) : Into q a b k i (swp e (i + 1) i) := by
  refine ⟨fun s h1 h2 => ?_, fun s t h1 h2 h3 h4 => ?_⟩
  · rw [swp_get e hs (by omega) i, swp_get e hs (by omega) s, if_pos rfl, if_neg (by omega), if_neg (by omega)]
    exact h.1 s h1 (by omega)
  · rw [swp_get e hs (by omega) t, swp_get e hs (by omega) s, if_neg (by omega), if_neg (by omega)]
    by_cases e1 : s = i
    · rw [if_pos e1]; exact h.2 (i + 1) t (by omega) (by omega) h3 h4
    · rw [if_neg e1]
      by_cases e2 : s = i + 1
      · rw [if_pos e2]; exact h.2 i t (by omega) (by omega) h3 h4
      · rw [if_neg e2]; exact h.2 s t h1 h2 h3 h4
/-- Those from m on came later than those ahead of m. -/
def Ap (q : α → α → Prop) (a m b : Nat) (d : Array α) : Prop := ∀ s t, a ≤ s → s < m → m ≤ t → t < b → q d[t]! d[s]!
theorem ap_rot {q : α → α → Prop} {a m b s mid en : Nat} {d d' : Array α} (h : Ap q a m b d) (hen : en + s = mid + m) (has : a ≤ s) (hsm : s ≤ m) (hme : m ≤ en) (heb : en ≤ b) (hr : Rotated s m en d d') : Ap q a s mid d' ∧ Ap q mid en b d' := by
  have es : s + (en - m) = mid := by omega
  refine ⟨fun x y h1 h2 h3 h4 => ?_, fun x y h1 h2 h3 h4 => ?_⟩
  · rw [hr y, hr x, if_pos (by omega), if_neg (by omega), if_neg (by omega)]
    exact h _ _ h1 (by omega) (by omega) (by omega)
  · rw [hr y, hr x, if_neg (by omega), if_neg (by omega), if_neg (by omega), if_pos (by omega)]
    exact h _ _ (by omega) (by omega) (by omega) h4
theorem ap_out {q : α → α → Prop} {a b x m y : Nat} {d d' : Array α} (h : Ap q x m y d) (hp : PermIn a b d d') (ho : y ≤ a ∨ b ≤ x) : Ap q x m y d' := fun s t h1 h2 h3 h4 => by
  rw [hp.2.1 s (by omega), hp.2.1 t (by omega)]
  exact h s t h1 h2 h3 h4
/-- Those from x on came later than those ahead of x. -/
def CrX (q : α → α → Prop) (N x : Nat) (e : Array α) : Prop := ∀ s t, s < x → x ≤ t → t < N → q e[t]! e[s]!
theorem cr_keep {q : α → α → Prop} {N x p r : Nat} {e e' : Array α} (h : CrX q N x e) (hp : PermIn p r e e') (hr : r ≤ N) (hN : N ≤ e.size) (ho : x ≤ p ∨ r ≤ x) : CrX q N x e' := fun s t h1 h2 h3 => by
  rcases ho with ho | ho
  · rw [hp.2.1 s (Or.inl (by omega))]
    by_cases ht : p ≤ t ∧ t < r
    · exact permIn_all e e' p r (fun y => q y e[s]!) (by omega) hp (fun k hk hkr => h s k h1 (by omega) (by omega)) t ht.1 ht.2
    · rw [hp.2.1 t (by omega)]; exact h s t h1 h2 h3
  · rw [hp.2.1 t (Or.inr (by omega))]
    by_cases ht : p ≤ s ∧ s < r
    · exact permIn_all e e' p r (fun y => q e[t]! y) (by omega) hp (fun k hk hkr => h k t (by omega) h2 h3) s ht.1 ht.2
    · rw [hp.2.1 s (by omega)]; exact h s t h1 h2 h3
theorem mul_sep (c j k : Nat) : c * j ≤ c * k ∨ c * k + c ≤ c * j := by
  rcases Nat.lt_or_ge k j with h | h
  · exact Or.inr (by have := Nat.mul_le_mul_left c (show k + 1 ≤ j from h); rwa [Nat.mul_add, Nat.mul_one] at this)
  · exact Or.inl (Nat.mul_le_mul_left c h)
/-- At each block's edge. -/
def CrB (q : α → α → Prop) (N B : Nat) (e : Array α) : Prop := ∀ j x, x = B * j → CrX q N x e
def CrM (q : α → α → Prop) (N B a : Nat) (e : Array α) : Prop := CrB q N (2 * B) e ∧ ∀ j x, x = B * j → a ≤ x → CrX q N x e
theorem crm_start {q : α → α → Prop} {N B : Nat} {e : Array α} (h : CrB q N B e) : CrM q N B 0 e := ⟨fun j x hx => h (2 * j) x (by rw [hx, Nat.mul_comm 2 B, Nat.mul_assoc]), fun j x hx _ => h j x hx⟩
theorem crm_ap {q : α → α → Prop} {lt : α → α → Bool} {N B n a b : Nat} {e : Array α} (h : CrM q N B a e) (hm : Mrg lt B n a e) (hb : b ≤ N) : Ap q a (a + B) b e := by
  obtain ⟨⟨k, hk⟩, _⟩ := hm
  have e1 : a + B = B * (2 * k + 1) := by rw [hk, Nat.mul_add, Nat.mul_one, Nat.mul_comm 2 B, Nat.mul_assoc]
  exact fun s t _ h2 h3 h4 => h.2 (2 * k + 1) (a + B) e1 (by omega) s t h2 h3 (by omega)
theorem crm_step {q : α → α → Prop} {lt : α → α → Bool} {N B n a : Nat} {e e' : Array α} (h : CrM q N B a e) (hm : Mrg lt B n a e) (hN : N ≤ e.size) (ha : a + 2 * B ≤ N) (hp : PermIn a (a + 2 * B) e e') : CrM q N B (a + 2 * B) e' := by
  obtain ⟨⟨k, hk⟩, _⟩ := hm
  refine ⟨fun j x hx => cr_keep (h.1 j x hx) hp ha hN ?_, fun j x hx hl => cr_keep (h.2 j x hx (by omega)) hp ha hN (Or.inr hl)⟩
  rw [hx, hk]
  exact mul_sep (2 * B) j k
theorem crm_end {q : α → α → Prop} {lt : α → α → Bool} {N B n a : Nat} {e e' : Array α} (h : CrM q N B a e) (hm : Mrg lt B n a e) (hN : N ≤ e.size) (ha : N < a + 2 * B) (hp : PermIn a N e e') : CrB q N (2 * B) e' := by
  obtain ⟨⟨k, hk⟩, _⟩ := hm
  intro j x hx
  rcases mul_sep (2 * B) j k with y | y
  · exact cr_keep (h.1 j x hx) hp (Nat.le_refl _) hN (Or.inl (by rw [hx, hk]; exact y))
  · exact fun s t _ h2 h3 => by omega
end
end Go.Proofs.Ytmldaiofghpfdaa
