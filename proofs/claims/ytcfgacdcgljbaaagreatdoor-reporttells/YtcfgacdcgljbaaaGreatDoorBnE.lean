/- What sort's stable merging does to an array, in plain mathematics. (Written by gen_rowpure.py.) Rows that are rotated, merged and sorted in blocks: the mathematics, without any walk. -/
import Derived.Sort.LotA
import Derived.Sort.Lot0
import Derived.Test.YtcfgacdcgljbaaaGreatDoorBnA
namespace Go.Proofs.YtcfgacdcgljbaaaGreatDoor
open Go.Sort
variable {α : Type} [Inhabited α]
/-- n places from a on, and n places from b on, are changed for one another. -/
def Swapped (a b n : Nat) (d d' : Array α) : Prop := ∀ t, d'[t]! = if a ≤ t ∧ t < a + n then d[t + (b - a)]! else if b ≤ t ∧ t < b + n then d[t - (b - a)]! else d[t]!
theorem swapped_zero (a b : Nat) (d : Array α) : Swapped a b 0 d d := fun t => by
  rw [if_neg (by omega), if_neg (by omega)]
theorem at_eq (e : Array α) {x y : Nat} (h : x = y) : e[x]! = e[y]! := by rw [h]
theorem swapped_step {a b i : Nat} {d e : Array α} (h : Swapped a b i d e) (hab : a + i < b) (ha : a + i < e.size) (hb : b + i < e.size) : Swapped a b (i + 1) d (swp e (a + i) (b + i)) := fun t => by
  rw [swp_get e ha hb t, h (a + i), h (b + i), h t]
  repeat' split
  all_goals first | (exact at_eq d (by omega)) | (exfalso; omega)
/-- What is still to be turned about: i places ahead of m, and j from it on. -/
def Turns (m i j : Nat) (R : Nat → α) (e : Array α) : Prop := ∀ t, R t = if m - i ≤ t ∧ t < m - i + j then e[t + i]! else if m - i + j ≤ t ∧ t < m + j then e[t - j]! else e[t]!
theorem turns_left {m i j : Nat} {R : Nat → α} {e e' : Array α} (h : Turns m i j R e) (hi : i ≤ m) (hij : j < i) (hs : Swapped (m - i) m j e e') : Turns m (i - j) j R e' := fun t => by
  rw [h t, hs (t + (i - j)), hs (t - j), hs t]
  repeat' split
  all_goals first | (exact at_eq e (by omega)) | (exfalso; omega)
theorem turns_right {m i j : Nat} {R : Nat → α} {e e' : Array α} (h : Turns m i j R e) (hi : i ≤ m) (hij : i < j) (hs : Swapped (m - i) (m + j - i) i e e') : Turns m i (j - i) R e' := fun t => by
  rw [h t, hs (t + i), hs (t - (j - i)), hs t]
  repeat' split
  all_goals first | (exact at_eq e (by omega)) | (exfalso; omega)
theorem turns_end {m i : Nat} {R : Nat → α} {e e' : Array α} (h : Turns m i i R e) (hi : i ≤ m) (hs : Swapped (m - i) m i e e') : ∀ t, e'[t]! = R t := fun t => by
  rw [h t, hs t]
  repeat' split
  all_goals first | (exact at_eq e (by omega)) | (exfalso; omega)
/-- The places from m to b stand ahead of those from a to m. -/
def Rotated (a m b : Nat) (d d' : Array α) : Prop := ∀ t, d'[t]! = if a ≤ t ∧ t < a + (b - m) then d[t + (m - a)]! else if a + (b - m) ≤ t ∧ t < b then d[t - (b - m)]! else d[t]!
theorem turns_start {a m b : Nat} (d : Array α) (h1 : a ≤ m) (h2 : m ≤ b) : Turns m (m - a) (b - m) (fun t => if a ≤ t ∧ t < a + (b - m) then d[t + (m - a)]! else if a + (b - m) ≤ t ∧ t < b then d[t - (b - m)]! else d[t]!) d := fun t => by
  have e1 : m - (m - a) = a := by omega
  have e2 : m + (b - m) = b := by omega
  simp only [e1, e2]
theorem rotated_none_left {m b : Nat} (d : Array α) : Rotated m m b d d := fun t => by
  repeat' split
  all_goals first | (exact at_eq d (by omega)) | (exfalso; omega)
theorem rotated_none_right {a m : Nat} (d : Array α) : Rotated a m m d d := fun t => by
  repeat' split
  all_goals first | (exact at_eq d (by omega)) | (exfalso; omega)
section
variable {lt : α → α → Bool}
/-- No one behind is less. -/
theorem SortedIn.le (hS : SWO lt) {a b : Nat} {d : Array α} (h : SortedIn lt a b d) {i j : Nat} (h1 : a ≤ i) (h2 : i ≤ j) (h3 : j < b) : lt d[j]! d[i]! = false := by
  rcases Nat.lt_or_ge i j with h4 | h4
  · exact h i j h1 h4 h3
  · have : i = j := by omega
    subst this; exact hS.irrefl _
theorem le_trans' {β : Type} {lt : β → β → Bool} (hS : SWO lt) {x y z : β} (h1 : lt y x = false) (h2 : lt z y = false) : lt z x = false := hS.ntrans _ _ _ h2 h1
theorem SortedIn.mono {a b a' b' : Nat} {d : Array α} (h : SortedIn lt a b d) (h1 : a ≤ a') (h2 : b' ≤ b) : SortedIn lt a' b' d := fun i j hi hij hj => h i j (by omega) hij (by omega)
theorem SortedIn.empty {a b : Nat} (d : Array α) (h : b ≤ a + 1) : SortedIn lt a b d := fun i j hi hij hj => by omega
/-- Two halves, each sorted, none of the second less than one of the first. -/
theorem sorted_join {a m b : Nat} {d : Array α} (h1 : SortedIn lt a m d) (h2 : SortedIn lt m b d) (h3 : ∀ i j, a ≤ i → i < m → m ≤ j → j < b → lt d[j]! d[i]! = false) : SortedIn lt a b d := fun i j hi hij hj => by
  rcases Nat.lt_or_ge j m with h4 | h4
  · exact h1 i j hi hij h4
  · rcases Nat.lt_or_ge i m with h5 | h5
    · exact h3 i j hi h5 h4 hj
    · exact h2 i j h5 hij hj
/-- What is so of all pairs of two halves stays so behind permutations of each. -/
theorem cross_perm {a m b : Nat} {d d' : Array α} (hsz : b ≤ d.size) (hm : m ≤ b) (h : ∀ i j, a ≤ i → i < m → m ≤ j → j < b → lt d[j]! d[i]! = false) (hp : PermIn a m d d') : ∀ i j, a ≤ i → i < m → m ≤ j → j < b → lt d'[j]! d'[i]! = false := by
  intro i j hi him hj hjb
  rw [hp.2.1 j (Or.inr hj)]
  exact permIn_all d d' a m (fun x => lt d[j]! x = false) (by omega) hp (fun k hk hkm => h k j hk hkm hj hjb) i hi him
theorem cross_perm2 {a m b : Nat} {d d' : Array α} (hsz : b ≤ d.size) (h : ∀ i j, a ≤ i → i < m → m ≤ j → j < b → lt d[j]! d[i]! = false) (hp : PermIn m b d d') : ∀ i j, a ≤ i → i < m → m ≤ j → j < b → lt d'[j]! d'[i]! = false := by
  intro i j hi him hj hjb
  rw [hp.2.1 i (Or.inl him)]
  exact permIn_all d d' m b (fun x => lt x d[i]! = false) hsz hp (fun k hk hkb => h i k hi him hk hkb) j hj hjb
/-- Behind the turning about: no one of the right half is less than one of the left. -/
theorem cross_rot (hS : SWO lt) {a m b s : Nat} {d d' : Array α} (h1 : SortedIn lt a m d) (h2 : SortedIn lt m b d) (mid en : Nat) (hen : en + s = mid + m) (has : a ≤ s) (hsm : s ≤ m) (hme : m ≤ en) (heb : en ≤ b) (hr : Rotated s m en d d')
    (k1 : a < s → en < b → lt d[en]! d[s - 1]! = false) (k2 : s < m → m < en → lt d[s]! d[en - 1]! = false) : ∀ i j, a ≤ i → i < mid → mid ≤ j → j < b → lt d'[j]! d'[i]! = false := by
  intro i j hi him hj hjb
  have es : s + (en - m) = mid := by omega
  have hri := hr i
  have hrj := hr j
  rw [es] at hri hrj
  rw [hri, hrj]
  have x1 : ∀ x, a ≤ x → x < s → lt d[s - 1]! d[x]! = false := fun x hx hxs => SortedIn.le hS h1 hx (by omega) (by omega)
  by_cases hi1 : s ≤ i ∧ i < mid
  · rw [if_pos hi1, if_neg (by omega)]
    by_cases hj1 : mid ≤ j ∧ j < en
    · rw [if_pos hj1]
      -- x out of the second, y out of the first
      have y1 : lt d[en - 1]! d[i + (m - s)]! = false := SortedIn.le hS h2 (by omega) (by omega) (by omega)
      have y2 : lt d[j - (en - m)]! d[s]! = false := SortedIn.le hS h1 (by omega) (by omega) (by omega)
      exact le_trans' hS (le_trans' hS y1 (k2 (by omega) (by omega))) y2
    · rw [if_neg hj1]
      exact SortedIn.le hS h2 (by omega) (by omega) hjb
  · rw [if_neg hi1, if_neg (show ¬ (mid ≤ i ∧ i < en) by omega), if_neg (by omega)]
    by_cases hj1 : mid ≤ j ∧ j < en
    · rw [if_pos hj1]
      exact SortedIn.le hS h1 hi (by omega) (by omega)
    · rw [if_neg hj1]
      have y1 := x1 i hi (by omega)
      have y2 : lt d[j]! d[en]! = false := SortedIn.le hS h2 (by omega) (by omega) hjb
      exact le_trans' hS (le_trans' hS y1 (k1 (by omega) (by omega))) y2
/-- Behind the turning about each half is two that are sorted. -/
theorem rot_parts {a m b s : Nat} {d d' : Array α} (h1 : SortedIn lt a m d) (h2 : SortedIn lt m b d) (mid en : Nat) (hen : en + s = mid + m) (has : a ≤ s) (hsm : s ≤ m) (hme : m ≤ en) (heb : en ≤ b) (hr : Rotated s m en d d') :
    SortedIn lt a s d' ∧ SortedIn lt s mid d' ∧ SortedIn lt mid en d' ∧ SortedIn lt en b d' := by
  have es : s + (en - m) = mid := by omega
  refine ⟨fun i j hi hij hj => ?_, fun i j hi hij hj => ?_, fun i j hi hij hj => ?_, fun i j hi hij hj => ?_⟩
  · rw [hr i, hr j, if_neg (by omega), if_neg (by omega), if_neg (by omega), if_neg (by omega)]
    exact h1 i j hi hij (by omega)
  · rw [hr i, hr j, if_pos (by omega), if_pos (by omega)]
    exact h2 _ _ (by omega) (by omega) (by omega)
  · rw [hr i, hr j, if_neg (by omega), if_pos (by omega), if_neg (by omega), if_pos (by omega)]
    exact h1 _ _ (by omega) (by omega) (by omega)
  · rw [hr i, hr j, if_neg (by omega), if_neg (by omega), if_neg (by omega), if_neg (by omega)]
    exact h2 i j (by omega) hij hj
end
end Go.Proofs.YtcfgacdcgljbaaaGreatDoor
namespace Go.Proofs.YtcfgacdcgljbaaaGreatDoor
open Go.RowKit
open Go.Sort hiding Below
variable {α : Type} [Inhabited α]
section
variable {lt : α → α → Bool} {q : α → α → Prop}
theorem swo_asym {β : Type} {lt : β → β → Bool} (hS : SWO lt) {x y : β} (h : lt x y = true) : lt y x = false := by
  cases hh : lt y x with
  | false => rfl
  | true =>
    have := hS.irrefl x
    rw [hS.trans x y x h hh] at this
    cases this
/-- One, put into its place among those behind it. -/
theorem one_right (hS : SWO lt) {a b i : Nat} {d d' : Array α} (h2 : SortedIn lt (a + 1) b d) (hi : a + 1 ≤ i) (hib : i ≤ b) (hr : Rotated a (a + 1) i d d') (k1 : a + 1 < i → lt d[i - 1]! d[a]! = true) (k2 : i < b → lt d[i]! d[a]! = false) : SortedIn lt a b d' := by
  have h1 : SortedIn lt a (a + 1) d := SortedIn.empty d (Nat.le_refl _)
  have hc := cross_rot hS h1 h2 (i - 1) i (by omega) (Nat.le_refl a) (by omega) hi hib hr (fun h => absurd h (Nat.lt_irrefl a)) (fun _ h => swo_asym hS (k1 h))
  have hp := rot_parts h1 h2 (i - 1) i (by omega) (Nat.le_refl a) (by omega) hi hib hr
  refine sorted_join hp.2.1 (sorted_join (m := i) (SortedIn.empty d' (by omega)) hp.2.2.2 ?_) hc
  intro x y hx hxi hy hyb
  obtain rfl : x = i - 1 := by omega
  rw [hr y, hr (i - 1), if_neg (by omega), if_neg (by omega), if_neg (by omega), if_pos (by omega), at_eq d (show i - 1 - (i - (a + 1)) = a by omega)]
  exact le_trans' hS (k2 (by omega)) (SortedIn.le hS h2 hi hy hyb)
/-- One, put into its place among those ahead of it. -/
theorem one_left (hS : SWO lt) {a m i : Nat} {d d' : Array α} (h1 : SortedIn lt a m d) (hi : a ≤ i) (him : i ≤ m) (hr : Rotated i m (m + 1) d d') (k1 : a < i → lt d[m]! d[i - 1]! = false) (k2 : i < m → lt d[m]! d[i]! = true) : SortedIn lt a (m + 1) d' := by
  have h2 : SortedIn lt m (m + 1) d := SortedIn.empty d (Nat.le_refl _)
  have hc := cross_rot hS h1 h2 (i + 1) (m + 1) (by omega) hi him (by omega) (Nat.le_refl _) hr (fun _ h => absurd h (Nat.lt_irrefl _)) (fun h _ => swo_asym hS (k2 h))
  have hp := rot_parts h1 h2 (i + 1) (m + 1) (by omega) hi him (by omega) (Nat.le_refl _) hr
  refine sorted_join (sorted_join (m := i) hp.1 (SortedIn.empty d' (by omega)) ?_) hp.2.2.1 hc
  intro x y hx hxi hy hyb
  obtain rfl : y = i := by omega
  rw [hr y, hr x, if_pos (by omega), if_neg (by omega), if_neg (by omega), at_eq d (show y + (m - y) = m by omega)]
  exact le_trans' hS (SortedIn.le hS h1 hx (show x ≤ y - 1 by omega) (by omega)) (k1 (by omega))
theorem rot_right_step {a k : Nat} {d e : Array α} (h : Rotated a (a + 1) (k + 1) d e) (hak : a ≤ k) (hk : k + 1 < e.size) : Rotated a (a + 1) (k + 2) d (swp e k (k + 1)) := fun t => by
  rw [swp_get e (by omega) hk t, h k, h (k + 1), h t]
  repeat' split
  all_goals first | (exact at_eq d (by omega)) | (exfalso; omega)
theorem rot_left_step {k m : Nat} {d e : Array α} (h : Rotated (k + 1) m (m + 1) d e) (hkm : k + 1 ≤ m) (hm : m < e.size) : Rotated k m (m + 1) d (swp e (k + 1) k) := fun t => by
  rw [swp_get e (by omega) (by omega) t, h k, h (k + 1), h t]
  repeat' split
  all_goals first | (exact at_eq d (by omega)) | (exfalso; omega)
theorem sorted_out {a b x y : Nat} {d d' : Array α} (h : SortedIn lt x y d) (hp : PermIn a b d d') (ho : y ≤ a ∨ b ≤ x) : SortedIn lt x y d' := fun i j hi hij hj => by
  rw [hp.2.1 i (by omega), hp.2.1 j (by omega)]
  exact h i j hi hij hj
/-- Each block of B is sorted. -/
def Blk (lt : α → α → Bool) (B n : Nat) (d : Array α) : Prop := ∀ j x, x = B * j → SortedIn lt x (min (x + B) n) d
/-- Up to a the blocks of twice B are sorted, from there on those of B. -/
def Mrg (lt : α → α → Bool) (B n a : Nat) (d : Array α) : Prop := (∃ k, a = 2 * B * k) ∧ (∀ j x, x = 2 * B * j → x + 2 * B ≤ a → SortedIn lt x (x + 2 * B) d) ∧ (∀ j x, x = B * j → a ≤ x → SortedIn lt x (min (x + B) n) d)
/-- The first blocks of 20. -/
def Fst (lt : α → α → Bool) (a : Nat) (d : Array α) : Prop := (∃ k, a = 20 * k) ∧ ∀ j, 20 * j + 20 ≤ a → SortedIn lt (20 * j) (20 * j + 20) d
theorem fst_start (d : Array α) : Fst lt 0 d := ⟨⟨0, rfl⟩, fun j h => by omega⟩
theorem fst_step {a : Nat} {d d' : Array α} (h : Fst lt a d) (hs : SortedIn lt a (a + 20) d') (hp : PermIn a (a + 20) d d') : Fst lt (a + 20) d' := by
  obtain ⟨⟨k, hk⟩, h2⟩ := h
  refine ⟨⟨k + 1, by omega⟩, fun j hj => ?_⟩
  by_cases e : 20 * j + 20 ≤ a
  · exact sorted_out (h2 j e) hp (Or.inl e)
  · have : 20 * j = a := by omega
    rw [this]; exact hs
theorem fst_end {a n : Nat} {d d' : Array α} (h : Fst lt a d) (han : a ≤ n) (hna : n < a + 20) (hs : SortedIn lt a n d') (hp : PermIn a n d d') : Blk lt 20 n d' := by
  obtain ⟨⟨k, hk⟩, h2⟩ := h
  intro j x hx
  subst hx
  by_cases e : 20 * j + 20 ≤ a
  · rw [Nat.min_eq_left (by omega)]
    exact sorted_out (h2 j e) hp (Or.inl e)
  · by_cases e2 : 20 * j = a
    · rw [e2, Nat.min_eq_right (by omega)]; exact hs
    · exact SortedIn.empty _ (by omega)
theorem mrg_start {B n : Nat} {d : Array α} (hB : 0 < B) (h : Blk lt B n d) : Mrg lt B n 0 d := ⟨⟨0, rfl⟩, fun j x _ h2 => by omega, fun j x hx _ => h j x hx⟩
theorem mrg_here {B n a : Nat} {d : Array α} (h : Mrg lt B n a d) : SortedIn lt a (min (a + B) n) d ∧ SortedIn lt (a + B) (min (a + 2 * B) n) d := by
  obtain ⟨⟨k, hk⟩, _, h3⟩ := h
  have e1 : a = B * (2 * k) := by rw [hk, Nat.mul_comm 2 B, Nat.mul_assoc]
  refine ⟨h3 (2 * k) a e1 (Nat.le_refl _), ?_⟩
  have := h3 (2 * k + 1) (a + B) (by rw [e1, Nat.mul_add, Nat.mul_one]) (by omega)
  rwa [show a + B + B = a + 2 * B by omega] at this
theorem mul_near {c j k : Nat} (h1 : c * j ≤ c * k) (h2 : c * k < c * j + c) : j = k := by
  have h3 : c * k < c * (j + 1) := by rw [Nat.mul_add, Nat.mul_one]; exact h2
  have h4 := Nat.lt_of_mul_lt_mul_left h3
  have hc : 0 < c := by omega
  have h5 := Nat.le_of_mul_le_mul_left h1 hc
  omega
theorem mrg_step {B n a : Nat} {d d' : Array α} (h : Mrg lt B n a d) (hs : SortedIn lt a (a + 2 * B) d') (hp : PermIn a (a + 2 * B) d d') : Mrg lt B n (a + 2 * B) d' := by
  obtain ⟨⟨k, hk⟩, h2, h3⟩ := h
  refine ⟨⟨k + 1, by rw [hk, Nat.mul_add, Nat.mul_one]⟩, fun j x hx hl => ?_, fun j x hx hl => sorted_out (h3 j x hx (by omega)) hp (Or.inr hl)⟩
  by_cases e : x + 2 * B ≤ a
  · exact sorted_out (h2 j x hx e) hp (Or.inl e)
  · have : j = k := mul_near (c := 2 * B) (by omega) (by omega)
    have e2 : x = a := by rw [hx, hk, this]
    rw [e2]; exact hs
theorem mrg_end {B n a : Nat} {d d' : Array α} (h : Mrg lt B n a d) (han : a ≤ n) (hna : n < a + 2 * B) (hs : SortedIn lt a n d') (hp : PermIn a n d d') : Blk lt (2 * B) n d' := by
  obtain ⟨⟨k, hk⟩, h2, _⟩ := h
  intro j x hx
  by_cases e : x + 2 * B ≤ a
  · rw [Nat.min_eq_left (by omega)]
    exact sorted_out (h2 j x hx e) hp (Or.inl e)
  · by_cases e2 : x ≤ a
    · have : j = k := mul_near (c := 2 * B) (by omega) (by omega)
      have e3 : x = a := by rw [hx, hk, this]
      rw [e3, Nat.min_eq_right (by omega)]; exact hs
    · refine SortedIn.empty _ ?_
      rcases Nat.lt_or_ge x n with e4 | e4
      · have : k = j := mul_near (c := 2 * B) (by omega) (by omega)
        have e3 : x = a := by rw [hx, hk, this]
        omega
      · omega
/-- Those from k on came later than all ahead of them. -/
def Later (q : α → α → Prop) (a b k : Nat) (e : Array α) : Prop := ∀ s t, a ≤ s → s < t → t < b → k ≤ t → q e[t]! e[s]!
/-- The one at j came later than those ahead of it, and those from k on later than all ahead of them. -/
def Into (q : α → α → Prop) (a b k j : Nat) (e : Array α) : Prop := (∀ s, a ≤ s → s < j → q e[j]! e[s]!) ∧ Later q a b k e
theorem into_swap {q : α → α → Prop} {a b k i : Nat} {e : Array α} (h : Into q a b k (i + 1) e) (hs : i + 1 < e.size) (hk : i + 1 < k) (ha : a ≤ i) : Into q a b k i (swp e (i + 1) i) := by
  refine ⟨fun s h1 h2 => ?_, fun s t h1 h2 h3 h4 => ?_⟩
  · rw [swp_get e hs (by omega) i, swp_get e hs (by omega) s, if_pos rfl, if_neg (by omega), if_neg (by omega)]
    exact h.1 s h1 (by omega)
  · rw [swp_get e hs (by omega) t, swp_get e hs (by omega) s, if_neg (by omega), if_neg (by omega)]
    by_cases e1 : s = i
    · rw [if_pos e1]; exact h.2 (i + 1) t (by omega) (by omega) h3 h4
    · rw [if_neg e1]
      by_cases e2 : s = i + 1
      · rw [if_pos e2]; exact h.2 i t (by omega) (by omega) h3 h4
      · rw [if_neg e2]; exact h.2 s t h1 h2 h3 h4
/-- Those from m on came later than those ahead of m. -/
def Ap (q : α → α → Prop) (a m b : Nat) (d : Array α) : Prop := ∀ s t, a ≤ s → s < m → m ≤ t → t < b → q d[t]! d[s]!
theorem ap_rot {q : α → α → Prop} {a m b s mid en : Nat} {d d' : Array α} (h : Ap q a m b d) (hen : en + s = mid + m) (has : a ≤ s) (hsm : s ≤ m) (hme : m ≤ en) (heb : en ≤ b) (hr : Rotated s m en d d') : Ap q a s mid d' ∧ Ap q mid en b d' := by
  have es : s + (en - m) = mid := by omega
  refine ⟨fun x y h1 h2 h3 h4 => ?_, fun x y h1 h2 h3 h4 => ?_⟩
  · rw [hr y, hr x, if_pos (by omega), if_neg (by omega), if_neg (by omega)]
    exact h _ _ h1 (by omega) (by omega) (by omega)
  · rw [hr y, hr x, if_neg (by omega), if_neg (by omega), if_neg (by omega), if_pos (by omega)]
    exact h _ _ (by omega) (by omega) (by omega) h4
theorem ap_out {q : α → α → Prop} {a b x m y : Nat} {d d' : Array α} (h : Ap q x m y d) (hp : PermIn a b d d') (ho : y ≤ a ∨ b ≤ x) : Ap q x m y d' := fun s t h1 h2 h3 h4 => by
  rw [hp.2.1 s (by omega), hp.2.1 t (by omega)]
  exact h s t h1 h2 h3 h4
/-- Those from x on came later than those ahead of x. -/
def CrX (q : α → α → Prop) (N x : Nat) (e : Array α) : Prop := ∀ s t, s < x → x ≤ t → t < N → q e[t]! e[s]!
theorem cr_keep {q : α → α → Prop} {N x p r : Nat} {e e' : Array α} (h : CrX q N x e) (hp : PermIn p r e e') (hr : r ≤ N) (hN : N ≤ e.size) (ho : x ≤ p ∨ r ≤ x) : CrX q N x e' := fun s t h1 h2 h3 => by
  rcases ho with ho | ho
  · rw [hp.2.1 s (Or.inl (by omega))]
    by_cases ht : p ≤ t ∧ t < r
    · exact permIn_all e e' p r (fun y => q y e[s]!) (by omega) hp (fun k hk hkr => h s k h1 (by omega) (by omega)) t ht.1 ht.2
    · rw [hp.2.1 t (by omega)]; exact h s t h1 h2 h3
  · rw [hp.2.1 t (Or.inr (by omega))]
    by_cases ht : p ≤ s ∧ s < r
    · exact permIn_all e e' p r (fun y => q e[t]! y) (by omega) hp (fun k hk hkr => h k t (by omega) h2 h3) s ht.1 ht.2
    · rw [hp.2.1 s (by omega)]; exact h s t h1 h2 h3
theorem mul_sep (c j k : Nat) : c * j ≤ c * k ∨ c * k + c ≤ c * j := by
  rcases Nat.lt_or_ge k j with h | h
  · exact Or.inr (by have := Nat.mul_le_mul_left c (show k + 1 ≤ j from h); rwa [Nat.mul_add, Nat.mul_one] at this)
  · exact Or.inl (Nat.mul_le_mul_left c h)
/-- At each block's edge. -/
def CrB (q : α → α → Prop) (N B : Nat) (e : Array α) : Prop := ∀ j x, x = B * j → CrX q N x e
def CrM (q : α → α → Prop) (N B a : Nat) (e : Array α) : Prop := CrB q N (2 * B) e ∧ ∀ j x, x = B * j → a ≤ x → CrX q N x e
theorem crm_start {q : α → α → Prop} {N B : Nat} {e : Array α} (h : CrB q N B e) : CrM q N B 0 e := ⟨fun j x hx => h (2 * j) x (by rw [hx, Nat.mul_comm 2 B, Nat.mul_assoc]), fun j x hx _ => h j x hx⟩
theorem crm_ap {q : α → α → Prop} {lt : α → α → Bool} {N B n a b : Nat} {e : Array α} (h : CrM q N B a e) (hm : Mrg lt B n a e) (hb : b ≤ N) : Ap q a (a + B) b e := by
  obtain ⟨⟨k, hk⟩, _⟩ := hm
  have e1 : a + B = B * (2 * k + 1) := by rw [hk, Nat.mul_add, Nat.mul_one, Nat.mul_comm 2 B, Nat.mul_assoc]
  exact fun s t _ h2 h3 h4 => h.2 (2 * k + 1) (a + B) e1 (by omega) s t h2 h3 (by omega)
theorem crm_step {q : α → α → Prop} {lt : α → α → Bool} {N B n a : Nat} {e e' : Array α} (h : CrM q N B a e) (hm : Mrg lt B n a e) (hN : N ≤ e.size) (ha : a + 2 * B ≤ N) (hp : PermIn a (a + 2 * B) e e') : CrM q N B (a + 2 * B) e' := by
  obtain ⟨⟨k, hk⟩, _⟩ := hm
  refine ⟨fun j x hx => cr_keep (h.1 j x hx) hp ha hN ?_, fun j x hx hl => cr_keep (h.2 j x hx (by omega)) hp ha hN (Or.inr hl)⟩
  rw [hx, hk]
  exact mul_sep (2 * B) j k
theorem crm_end {q : α → α → Prop} {lt : α → α → Bool} {N B n a : Nat} {e e' : Array α} (h : CrM q N B a e) (hm : Mrg lt B n a e) (hN : N ≤ e.size) (ha : N < a + 2 * B) (hp : PermIn a N e e') : CrB q N (2 * B) e' := by
  obtain ⟨⟨k, hk⟩, _⟩ := hm
  intro j x hx
  rcases mul_sep (2 * B) j k with y | y
  · exact cr_keep (h.1 j x hx) hp (Nat.le_refl _) hN (Or.inl (by rw [hx, hk]; exact y))
  · exact fun s t _ h2 h3 => by omega
end
end Go.Proofs.YtcfgacdcgljbaaaGreatDoor
