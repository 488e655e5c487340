/- What sort's stable merging does to an array, in plain mathematics. -/
import Derived.Sort.LotA
import Derived.Sort.Lot0
import Derived.Test.YtmldaiofghpfdaaBase
namespace Go.Proofs.Ytmldaiofghpfdaa
open Go.Sort
variable {α : Type} [Inhabited α]
/-- n places from a on, and n places from b on, are changed for one another. -/
def Swapped (a b n : Nat) (d d' : Array α) : Prop := ∀ t, d'[t]! = if a ≤ t ∧ t < a + n then d[t + (b - a)]! else if b ≤ t ∧ t < b + n then d[t - (b - a)]! else d[t]!
theorem swapped_zero (a b : Nat) (d : Array α) : Swapped a b 0 d d := fun t => by
  rw [if_neg (by omega), if_neg (by omega)]
theorem at_eq (e : Array α) {x y : Nat} (h : x = y) : e[x]! = e[y]! := by rw [h]
theorem swapped_step {a b i : Nat} {d e : Array α} (h : Swapped a b i d e) (hab : a + i < b) (ha : a + i < e.size) (hb : b + i < e.size) : Swapped a b (i + 1) d (swp e (a + i) (b + i)) := fun t => by
  rw [swp_get e ha hb t, h (a + i), h (b + i), h t]
  repeat' split
  all_goals first | (exact at_eq d (by omega)) | (exfalso; omega)
/-- What is still to be turned about: i places ahead of m, and j from it on. -/
def Turns (m i j : Nat) (R : Nat → α) (e : Array α) : Prop := ∀ t, R t = if m - i ≤ t ∧ t < m - i + j then e[t + i]! else if m - i + j ≤ t ∧ t < m + j then e[t - j]! else e[t]!
theorem turns_left {m i j : Nat} {R : Nat → α} {e e' : Array α} (h : Turns m i j R e) (hi : i ≤ m) (hij : j < i) (hs : Swapped (m - i) m j e e') : Turns m (i - j) j R e' := fun t => by
  rw [h t, hs (t + (i - j)), hs (t - j), hs t]
  repeat' split
  all_goals first | (exact at_eq e (by omega)) | (exfalso; omega)
theorem turns_right {m i j : Nat} {R : Nat → α} {e e' : Array α} (h : Turns m i j R e) (hi : i ≤ m) (hij : i < j) (hs : Swapped (m - i) (m + j - i) i e e') : Turns m i (j - i) R e' := fun t => by
  rw [h t, hs (t + i), hs (t - (j - i)), hs t]
  repeat' split
  all_goals first | (exact at_eq e (by omega)) | (exfalso; omega)
theorem turns_end {m i : Nat} {R : Nat → α} {e e' : Array α} (h : Turns m i i R e) (hi : i ≤ m) (hs : Swapped (m - i) m i e e') : ∀ t, e'[t]! = R t := fun t => by
  rw [h t, hs t]
  repeat' split
  all_goals first | (exact at_eq e (by omega)) | (exfalso; omega)
/-- The places from m to b stand ahead of those from a to m. -/
def Rotated (a m b : Nat) (d d' : Array α) : Prop := ∀ t, d'[t]! = if a ≤ t ∧ t < a + (b - m) then d[t + (m - a)]! else if a + (b - m) ≤ t ∧ t < b then d[t - (b - m)]! else d[t]!
theorem turns_start {a m b : Nat} (d : Array α) (h1 : a ≤ m) (h2 : m ≤ b) : Turns m (m - a) (b - m) (fun t => if a ≤ t ∧ t < a + (b - m) then d[t + (m - a)]! else if a + (b - m) ≤ t ∧ t < b then d[t - (b - m)]! else d[t]!) d := fun t => by
  have e1 : m - (m - a) = a := by omega
  have e2 : m + (b - m) = b := by omega
  simp only [e1, e2]
theorem rotated_none_left {m b : Nat} (d : Array α) : Rotated m m b d d := fun t => by
  repeat' split
  all_goals first | (exact at_eq d (by omega)) | (exfalso; omega)
theorem rotated_none_right {a m : Nat} (d : Array α) : Rotated a m m d d := fun t => by
  repeat' split
  all_goals first | (exact at_eq d (by omega)) | (exfalso; omega)
section
variable {lt : α → α → Bool}
/-- No one behind is less. -/
theorem SortedIn.le (hS : SWO lt) {a b : Nat} {d : Array α} (h : SortedIn lt a b d) {i j : Nat} (h1 : a ≤ i) (h2 : i ≤ j) (h3 : j < b) : lt d[j]! d[i]! = false := by
  rcases Nat.lt_or_ge i j with h4 | h4
  · exact h i j h1 h4 h3
  · have : i = j := by omega
    subst this; exact hS.irrefl _
theorem le_trans' {β : Type} {lt : β → β → Bool} (hS : SWO lt) {x y z : β} (h1 : lt y x = false) (h2 : lt z y = false) : lt z x = false := hS.ntrans _ _ _ h2 h1
theorem SortedIn.mono {a b a' b' : Nat} {d : Array α} (h : SortedIn lt a b d) (h1 : a ≤ a') (h2 : b' ≤ b) : SortedIn lt a' b' d := fun i j hi hij hj => h i j (by omega) hij (by omega)
theorem SortedIn.empty {a b : Nat} (d : Array α) (h : b ≤ a + 1) : SortedIn lt a b d := fun i j hi hij hj => by omega
/-- Two halves, each sorted, none of the second less than one of the first. -/
theorem sorted_join {a m b : Nat} {d : Array α} (h1 : SortedIn lt a m d) (h2 : SortedIn lt m b d) (h3 : ∀ i j, a ≤ i → i < m → m ≤ j → j < b → lt d[j]! d[i]! = false) : SortedIn lt a b d := fun i j hi hij hj => by
  rcases Nat.lt_or_ge j m with h4 | h4
  · exact h1 i j hi hij h4
  · rcases Nat.lt_or_ge i m with h5 | h5
    · exact h3 i j hi h5 h4 hj
    · exact h2 i j h5 hij hj
/-- What is so of all pairs of two halves stays so behind permutations of each. -/
theorem cross_perm {a m b : Nat} {d d' : Array α} (hsz : b ≤ d.size) (hm : m ≤ b) (h : ∀ i j, a ≤ i → i < m → m ≤ j → j < b → lt d[j]! d[i]! = false) (hp : PermIn a m d d') : ∀ i j, a ≤ i → i < m → m ≤ j → j < b → lt d'[j]! d'[i]! = false := by
  intro i j hi him hj hjb
  rw [hp.2.1 j (Or.inr hj)]
  exact permIn_all d d' a m (fun x => lt d[j]! x = false) (by omega) hp (fun k hk hkm => h k j hk hkm hj hjb) i hi him
theorem cross_perm2 {a m b : Nat} {d d' : Array α} (hsz : b ≤ d.size) (h : ∀ i j, a ≤ i → i < m → m ≤ j → j < b → lt d[j]! d[i]! = false) (hp : PermIn m b d d') : ∀ i j, a ≤ i → i < m → m ≤ j → j < b → lt d'[j]! d'[i]! = false := by
  intro i j hi him hj hjb
  rw [hp.2.1 i (Or.inl him)]
  exact permIn_all d d' m b (fun x => lt x d[i]! = false) hsz hp (fun k hk hkb => h i k hi him hk hkb) j hj hjb
/-- Behind the turning about: no one of the right half is less than one of the left. -/
theorem cross_rot (hS : SWO lt) {a m b s : Nat} {d d' : Array α} (h1 : SortedIn lt a m d) (h2 : SortedIn lt m b d) (mid en : Nat) (hen : en + s = mid + m) (has : a ≤ s) (hsm : s ≤ m) (hme : m ≤ en) (heb : en ≤ b) (hr : Rotated s m en d d')
    (k1 : a < s → en < b → lt d[en]! d[s - 1]! = false) (k2 : s < m → m < en → lt d[s]! d[en - 1]! = false) : ∀ i j, a ≤ i → i < mid → mid ≤ j → j < b → lt d'[j]! d'[i]! = false := by
  intro i j hi him hj hjb
  have es : s + (en - m) = mid := by omega
  have hri := hr i
  have hrj := hr j
  rw [es] at hri hrj
  rw [hri, hrj]
  have x1 : ∀ x, a ≤ x → x < s → lt d[s - 1]! d[x]! = false := fun x hx hxs => SortedIn.le hS h1 hx (by omega) (by omega)
  by_cases hi1 : s ≤ i ∧ i < mid
  · rw [if_pos hi1, if_neg (by omega)]
    by_cases hj1 : mid ≤ j ∧ j < en
    · rw [if_pos hj1]
      -- x out of the second, y out of the first
      have y1 : lt d[en - 1]! d[i + (m - s)]! = false := SortedIn.le hS h2 (by omega) (by omega) (by omega)
      have y2 : lt d[j - (en - m)]! d[s]! = false := SortedIn.le hS h1 (by omega) (by omega) (by omega)
      exact le_trans' hS (le_trans' hS y1 (k2 (by omega) (by omega))) y2
    · rw [if_neg hj1]
      exact SortedIn.le hS h2 (by omega) (by omega) hjb
  · rw [if_neg hi1, if_neg (show ¬ (mid ≤ i ∧ i < en) by omega), if_neg (by omega)]
    by_cases hj1 : mid ≤ j ∧ j < en
    · rw [if_pos hj1]
      exact SortedIn.le hS h1 hi (by omega) (by omega)
    · rw [if_neg hj1]
      have y1 := x1 i hi (by omega)
      have y2 : lt d[j]! d[en]! = false := SortedIn.le hS h2 (by omega) (by omega) hjb
      exact le_trans' hS (le_trans' hS y1 (k1 (by omega) (by omega))) y2
/-- Behind the turning about each half is two that are sorted. -/
theorem rot_parts {a m b s : Nat} {d d' : Array α} (h1 : SortedIn lt a m d) (h2 : SortedIn lt m b d) (mid en : Nat) (hen : en + s = mid + m) (has : a ≤ s) (hsm : s ≤ m) (hme : m ≤ en) (heb : en ≤ b) (hr : Rotated s m en d d') :
    SortedIn lt a s d' ∧ SortedIn lt s mid d' ∧ SortedIn lt mid en d' ∧ SortedIn lt en b d' := by
  have es : s + (en - m) = mid := by omega
  refine ⟨fun i j hi hij hj => ?_, fun i j hi hij hj => ?_, fun i j hi hij hj => ?_, fun i j hi hij hj => ?_⟩
  · rw [hr i, hr j, if_neg (by omega), if_neg (by omega), if_neg (by omega), if_neg (by omega)]
    exact h1 i j hi hij (by omega)
  · rw [hr i, hr j, if_pos (by omega), if_pos (by omega)]
    exact h2 _ _ (by omega) (by omega) (by omega)
  · rw [hr i, hr j, if_neg (by omega), if_pos (by omega), if_neg (by omega), if_pos (by omega)]
    exact h1 _ _ (by omega) (by omega) (by omega)
  · rw [hr i, hr j, if_neg (by omega), if_neg (by omega), if_neg (by omega), if_neg (by omega)]
    exact h2 i j (by omega) hij hj
end
end Go.Proofs.Ytmldaiofghpfdaa
