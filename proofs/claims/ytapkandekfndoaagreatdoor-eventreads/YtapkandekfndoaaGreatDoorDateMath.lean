/- How a day is written, and which day a text is, in plain mathematics. No walk. -/
import Derived.Test.YtapkandekfndoaaGreatDoorDayMath
namespace Go.Proofs.YtapkandekfndoaaGreatDoor
/-- Two digits. -/
def tw (n : Int) : List Int := [48 + n / 10, 48 + n % 10]
/-- A day's text, as numbers. -/
def dtx (y m d : Int) : List Int := tw (y / 100) ++ (tw (y % 100) ++ (45 :: (tw m ++ (45 :: tw d))))
def DT (n : Int) : List Int := dtx (ky (dK n)) (km (dK n)) (dD n)
/-- What numbers are as bytes. -/
def bts (l : List Int) : List UInt8 := l.map fun n => UInt8.ofNat n.toNat
/-- The number that a short text makes. -/
def dval1 (n : Int) (c : UInt8) : Int := n * 10 + (c.toNat : Int) - 48
def dval (l : List UInt8) : Int := l.foldl dval1 0
theorem dval_snoc (l : List UInt8) (c : UInt8) : dval (l ++ [c]) = dval1 (dval l) c := by simp [dval]
theorem dval_bd : ∀ (m : Nat) (l : List UInt8), l.length = m → -(300 * 11 ^ m : Int) ≤ dval l ∧ dval l ≤ 300 * 11 ^ m
  | 0, l, h => by
    have : l = [] := List.eq_nil_of_length_eq_zero h
    subst this; simp [dval]
  | m + 1, l, h => by
    obtain ⟨l', c, rfl⟩ : ∃ l' c, l = l' ++ [c] := by
      rcases List.eq_nil_or_concat l with rfl | ⟨l', c, rfl⟩
      · simp at h
      · exact ⟨l', c, by simp⟩
    have ih := dval_bd m l' (by simpa using h)
    have hc : c.toNat < 256 := c.toNat_lt
    have hp : (1 : Int) ≤ 11 ^ m := by
      have : 0 < (11 : Nat) ^ m := Nat.pow_pos (by omega)
      exact_mod_cast this
    rw [dval_snoc, Int.pow_succ]; unfold dval1
    omega
theorem dval_bd4 (l : List UInt8) (h : l.length ≤ 4) : -5000000 ≤ dval l ∧ dval l ≤ 5000000 := by
  have h1 := dval_bd l.length l rfl
  have h2 : (11 : Int) ^ l.length ≤ 11 ^ 4 := by
    have : (11 : Nat) ^ l.length ≤ 11 ^ 4 := Nat.pow_le_pow_right (by omega) h
    exact_mod_cast this
  have h3 : (11 : Int) ^ 4 = 14641 := by decide
  omega
theorem byte_val (n : Int) (h : 0 ≤ n) (h' : n < 256) : ((UInt8.ofNat n.toNat).toNat : Int) = n := by
  rw [UInt8.toNat_ofNat']; omega
theorem dval_tw (n : Int) (h : 0 ≤ n) (h' : n < 100) : dval (bts (tw n)) = n := by
  have e1 := byte_val (48 + n / 10) (by omega) (by omega)
  have e2 := byte_val (48 + n % 10) (by omega) (by omega)
  simp only [dval, bts, tw, List.map, List.foldl, dval1]
  rw [e1, e2]; omega
theorem dval_tw2 (n : Int) (h : 0 ≤ n) (h' : n < 10000) : dval (bts (tw (n / 100) ++ tw (n % 100))) = n := by
  have e1 := byte_val (48 + n / 100 / 10) (by omega) (by omega)
  have e2 := byte_val (48 + n / 100 % 10) (by omega) (by omega)
  have e3 := byte_val (48 + n % 100 / 10) (by omega) (by omega)
  have e4 := byte_val (48 + n % 100 % 10) (by omega) (by omega)
  simp only [dval, bts, tw, List.map, List.foldl, dval1, List.cons_append, List.nil_append]
  rw [e1, e2, e3, e4]; omega
/-- What Of tells: a number, or nothing. -/
def ofDay (y m d : Int) : Option Int :=
  if 1900 ≤ y ∧ y ≤ 2200 ∧ 1 ≤ m ∧ m ≤ 12 ∧ 1 ≤ d ∧ d ≤ mlen y m ∧ fst y m + d - 1 ≤ 99999 then some (fst y m + d - 1) else none
theorem ofDay_some {y m d n : Int} (h : ofDay y m d = some n) : 1900 ≤ y ∧ y ≤ 2200 ∧ 1 ≤ m ∧ m ≤ 12 ∧ 1 ≤ d ∧ d ≤ mlen y m ∧ n = fst y m + d - 1 ∧ 0 ≤ n ∧ n ≤ 99999 ∧ IsDay n (mk y m) d := by
  unfold ofDay at h
  split at h
  · rename_i hh
    obtain ⟨a, b, c, e, f, g, i⟩ := hh
    simp at h
    subst h
    have hd : IsDay (fst y m + d - 1) (mk y m) d := by
      refine ⟨f, ?_, ?_⟩
      · unfold klen; rw [mk_ky a c e, mk_km a c e]; exact g
      · rw [fst_mk a c e]
    exact ⟨a, b, c, e, f, g, rfl, day_nn hd, i, hd⟩
  · simp at h
theorem ofDay_is {n : Int} (h : 0 ≤ n) (h' : n ≤ 99999) : ofDay (ky (dK n)) (km (dK n)) (dD n) = some n := by
  have hd := is_day n h
  have hk := dK_le h h'
  have hm := km_bd (dK n)
  obtain ⟨a, b, c⟩ := hd
  have e : fst (ky (dK n)) (km (dK n)) + dD n - 1 = n := by rw [fst_k]; exact c
  unfold ofDay
  rw [if_pos ⟨ky_ge _, by unfold ky; omega, hm.1, hm.2, a, b, by rw [e]; exact h'⟩, e]
/-- What Parse reads: a number, or nothing. -/
def dparsed (l : List UInt8) : Option Int :=
  if l.length = 10 then
    (ofDay (dval (l.take 4)) (dval ((l.drop 5).take 2)) (dval (l.drop 8))).bind fun n => if bts (DT n) = l then some n else none
  else none
theorem dparsed_some {l : List UInt8} {n : Int} (h : dparsed l = some n) : l.length = 10 ∧ 0 ≤ n ∧ n ≤ 99999 ∧ bts (DT n) = l ∧ ofDay (dval (l.take 4)) (dval ((l.drop 5).take 2)) (dval (l.drop 8)) = some n := by
  unfold dparsed at h
  split at h
  · rename_i hl
    rcases ho : ofDay (dval (l.take 4)) (dval ((l.drop 5).take 2)) (dval (l.drop 8)) with _ | k
    · rw [ho] at h; simp at h
    · rw [ho] at h
      simp only [Option.bind] at h
      split at h
      · rename_i hb
        simp at h; subst h
        have := ofDay_some ho
        exact ⟨hl, this.2.2.2.2.2.2.2.1, this.2.2.2.2.2.2.2.2.1, hb, rfl⟩
      · simp at h
  · simp at h
theorem dD_bd {n : Int} (h : 0 ≤ n) : 1 ≤ dD n ∧ dD n ≤ 31 := by
  obtain ⟨a, b, c⟩ := is_day n h
  have := klen_bd (dK n); omega
theorem dparsed_DT {n : Int} (h : 0 ≤ n) (h' : n ≤ 99999) : dparsed (bts (DT n)) = some n := by
  have hk := dK_le h h'
  have hy : 1900 ≤ ky (dK n) ∧ ky (dK n) ≤ 2200 := ⟨ky_ge _, by unfold ky; omega⟩
  have hm := km_bd (dK n)
  have hd := dD_bd h
  have e1 : dval ((bts (DT n)).take 4) = ky (dK n) := dval_tw2 _ (by omega) (by omega)
  have e2 : dval (((bts (DT n)).drop 5).take 2) = km (dK n) := dval_tw _ (by omega) (by omega)
  have e3 : dval ((bts (DT n)).drop 8) = dD n := dval_tw _ (by omega) (by omega)
  unfold dparsed
  rw [if_pos (show (bts (DT n)).length = 10 from rfl), e1, e2, e3, ofDay_is h h']
  simp
theorem dparsed_none {l : List UInt8} (h : dparsed l = none) : ∀ n, 0 ≤ n → n ≤ 99999 → bts (DT n) ≠ l := by
  intro n h0 h1 e
  rw [← e, dparsed_DT h0 h1] at h
  simp at h
theorem of_2000 : ofDay 2000 2 29 = some 36583 := by decide
theorem dK_36583 : dK 36583 = 1201 ∧ dD 36583 = 29 := of_isDay (ofDay_some of_2000).2.2.2.2.2.2.2.2.2
theorem dparsed_2000 : dparsed [50, 48, 48, 48, 45, 48, 50, 45, 50, 57] = some 36583 := by
  have e : bts (DT 36583) = [50, 48, 48, 48, 45, 48, 50, 45, 50, 57] := by
    unfold DT; rw [dK_36583.1, dK_36583.2]; decide
  rw [← e]; exact dparsed_DT (by omega) (by omega)
theorem dparsed_1900 : dparsed [49, 57, 48, 48, 45, 48, 50, 45, 50, 57] = none := by
  have e1 : ofDay (dval (List.take 4 [49, 57, 48, 48, 45, 48, 50, 45, 50, 57])) (dval ((List.drop 5 [49, 57, 48, 48, 45, 48, 50, 45, 50, 57]).take 2)) (dval (List.drop 8 [49, 57, 48, 48, 45, 48, 50, 45, 50, 57])) = none := by decide
  unfold dparsed
  rw [if_pos (by decide), e1]; rfl
/-- The day behind one, by year, month and day of the month. -/
theorem next_day {n : Int} (h : 0 ≤ n) :
    (ky (dK (n + 1)) = ky (dK n) ∧ km (dK (n + 1)) = km (dK n) ∧ dD (n + 1) = dD n + 1)
    ∨ (dD (n + 1) = 1 ∧ 28 ≤ dD n ∧ km (dK (n + 1)) = km (dK n) % 12 + 1 ∧ (km (dK n) < 12 ∧ ky (dK (n + 1)) = ky (dK n) ∨ km (dK n) = 12 ∧ ky (dK (n + 1)) = ky (dK n) + 1)) := by
  have hk := klen_bd (dK n)
  rcases isDay_next (is_day n h) with ⟨_, b⟩ | ⟨a, b⟩
  · obtain ⟨e1, e2⟩ := of_isDay b
    left; rw [e1, e2]; exact ⟨rfl, rfl, rfl⟩
  · obtain ⟨e1, e2⟩ := of_isDay b
    right; rw [e1, e2]
    refine ⟨rfl, by omega, by unfold km; omega, ?_⟩
    unfold km ky; omega
/-- A month's last day. -/
theorem last_day {k : Nat} (h : k ≤ 3284) : 0 ≤ kfd k + klen k - 1 ∧ kfd k + klen k - 1 ≤ 99984 ∧ dK (kfd k + klen k - 1) = k ∧ dK (kfd k + klen k - 1 + 1) = k + 1 := by
  have hl := isDay_last k
  have h0 := day_nn hl
  have h1 := kfd_lt k 3285 (by omega)
  rw [kfd_3285] at h1
  refine ⟨h0, by omega, (of_isDay hl).1, ?_⟩
  rcases isDay_next hl with ⟨a, _⟩ | ⟨_, b⟩
  · omega
  · exact (of_isDay b).1
theorem dK_mono {a b : Int} (h : 0 ≤ a) (h' : a ≤ b) : dK a ≤ dK b := isDay_mono (is_day a h) (is_day b (by omega)) h'
end Go.Proofs.YtapkandekfndoaaGreatDoor
