/- How a day is written, and which day a text is, in plain mathematics. No walk. The walks of day.leap, day.length, day.leaps and day.firstOf. -/
import Derived.Test.YtcfgacdcgljbaaaGreatDoorBnS
import Derived.Test.YtcfgacdcgljbaaaGreatDoorRows
import Derived.WalkKit
import Derived.ProofKit
import Derived.OpenShut
import Derived.WalkSpells
import Derived.Deep.QuietTactic
import Derived.BigQuiet
namespace Go.Proofs.YtcfgacdcgljbaaaGreatDoor
/-- Two digits. -/
def tw (n : Int) : List Int := [48 + n / 10, 48 + n % 10]
/-- A day's text, as numbers. -/
def dtx (y m d : Int) : List Int := tw (y / 100) ++ (tw (y % 100) ++ (45 :: (tw m ++ (45 :: tw d))))
def DT (n : Int) : List Int := dtx (ky (dK n)) (km (dK n)) (dD n)
/-- What numbers are as bytes. -/
def bts (l : List Int) : List UInt8 := l.map fun n => UInt8.ofNat n.toNat
/-- The number that a short text makes. -/
def dval1 (n : Int) (c : UInt8) : Int := n * 10 + (c.toNat : Int) - 48
def dval (l : List UInt8) : Int := l.foldl dval1 0
theorem dval_snoc (l : List UInt8) (c : UInt8) : dval (l ++ [c]) = dval1 (dval l) c := by simp [dval]
theorem dval_bd : ∀ (m : Nat) (l : List UInt8), l.length = m → -(300 * 11 ^ m : Int) ≤ dval l ∧ dval l ≤ 300 * 11 ^ m
  | 0, l, h => by
    have : l = [] := List.eq_nil_of_length_eq_zero h
    subst this; simp [dval]
  | m + 1, l, h => by
    obtain ⟨l', c, rfl⟩ : ∃ l' c, l = l' ++ [c] := by
      rcases List.eq_nil_or_concat l with rfl | ⟨l', c, rfl⟩
      · simp at h
      · exact ⟨l', c, by simp⟩
    have ih := dval_bd m l' (by simpa using h)
    have hc : c.toNat < 256 := c.toNat_lt
    have hp : (1 : Int) ≤ 11 ^ m := by
      have : 0 < (11 : Nat) ^ m := Nat.pow_pos (by omega)
      exact_mod_cast this
    rw [dval_snoc, Int.pow_succ]; unfold dval1
    omega
theorem dval_bd4 (l : List UInt8) (h : l.length ≤ 4) : -5000000 ≤ dval l ∧ dval l ≤ 5000000 := by
  have h1 := dval_bd l.length l rfl
  have h2 : (11 : Int) ^ l.length ≤ 11 ^ 4 := by
    have : (11 : Nat) ^ l.length ≤ 11 ^ 4 := Nat.pow_le_pow_right (by omega) h
    exact_mod_cast this
  have h3 : (11 : Int) ^ 4 = 14641 := by decide
  omega
theorem byte_val (n : Int) (h : 0 ≤ n) (h' : n < 256) : ((UInt8.ofNat n.toNat).toNat : Int) = n := by
  rw [UInt8.toNat_ofNat']; omega
theorem dval_tw (n : Int) (h : 0 ≤ n) (h' : n < 100) : dval (bts (tw n)) = n := by
  have e1 := byte_val (48 + n / 10) (by omega) (by omega)
  have e2 := byte_val (48 + n % 10) (by omega) (by omega)
  simp only [dval, bts, tw, List.map, List.foldl, dval1]
  rw [e1, e2]; omega
theorem dval_tw2 (n : Int) (h : 0 ≤ n) (h' : n < 10000) : dval (bts (tw (n / 100) ++ tw (n % 100))) = n := by
  have e1 := byte_val (48 + n / 100 / 10) (by omega) (by omega)
  have e2 := byte_val (48 + n / 100 % 10) (by omega) (by omega)
  have e3 := byte_val (48 + n % 100 / 10) (by omega) (by omega)
  have e4 := byte_val (48 + n % 100 % 10) (by omega) (by omega)
  simp only [dval, bts, tw, List.map, List.foldl, dval1, List.cons_append, List.nil_append]
  rw [e1, e2, e3, e4]; omega
/-- What Of tells: a number, or nothing. -/
def ofDay (y m d : Int) : Option Int :=
  if 1900 ≤ y ∧ y ≤ 2200 ∧ 1 ≤ m ∧ m ≤ 12 ∧ 1 ≤ d ∧ d ≤ mlen y m ∧ fst y m + d - 1 ≤ 99999 then some (fst y m + d - 1) else none
theorem ofDay_some {y m d n : Int} (h : ofDay y m d = some n) : 1900 ≤ y ∧ y ≤ 2200 ∧ 1 ≤ m ∧ m ≤ 12 ∧ 1 ≤ d ∧ d ≤ mlen y m ∧ n = fst y m + d - 1 ∧ 0 ≤ n ∧ n ≤ 99999 ∧ IsDay n (mk y m) d := by
  unfold ofDay at h
  split at h
  · rename_i hh
    obtain ⟨a, b, c, e, f, g, i⟩ := hh
    simp at h
    subst h
    have hd : IsDay (fst y m + d - 1) (mk y m) d := by
      refine ⟨f, ?_, ?_⟩
      · unfold klen; rw [mk_ky a c e, mk_km a c e]; exact g
      · rw [fst_mk a c e]
    exact ⟨a, b, c, e, f, g, rfl, day_nn hd, i, hd⟩
  · simp at h
theorem ofDay_is {n : Int} (h : 0 ≤ n) (h' : n ≤ 99999) : ofDay (ky (dK n)) (km (dK n)) (dD n) = some n := by
  have hd := is_day n h
  have hk := dK_le h h'
  have hm := km_bd (dK n)
  obtain ⟨a, b, c⟩ := hd
  have e : fst (ky (dK n)) (km (dK n)) + dD n - 1 = n := by rw [fst_k]; exact c
  unfold ofDay
  rw [if_pos ⟨ky_ge _, by unfold ky; omega, hm.1, hm.2, a, b, by rw [e]; exact h'⟩, e]
/-- What Parse reads: a number, or nothing. -/
def dparsed (l : List UInt8) : Option Int :=
  if l.length = 10 then
    (ofDay (dval (l.take 4)) (dval ((l.drop 5).take 2)) (dval (l.drop 8))).bind fun n => if bts (DT n) = l then some n else none
  else none
theorem dparsed_some {l : List UInt8} {n : Int} (h : dparsed l = some n) : l.length = 10 ∧ 0 ≤ n ∧ n ≤ 99999 ∧ bts (DT n) = l ∧ ofDay (dval (l.take 4)) (dval ((l.drop 5).take 2)) (dval (l.drop 8)) = some n := by
  unfold dparsed at h
  split at h
  · rename_i hl
    rcases ho : ofDay (dval (l.take 4)) (dval ((l.drop 5).take 2)) (dval (l.drop 8)) with _ | k
    · rw [ho] at h; simp at h
    · rw [ho] at h
      simp only [Option.bind] at h
      split at h
      · rename_i hb
        simp at h; subst h
        have := ofDay_some ho
        exact ⟨hl, this.2.2.2.2.2.2.2.1, this.2.2.2.2.2.2.2.2.1, hb, rfl⟩
      · simp at h
  · simp at h
theorem dD_bd {n : Int} (h : 0 ≤ n) : 1 ≤ dD n ∧ dD n ≤ 31 := by
  obtain ⟨a, b, c⟩ := is_day n h
  have := klen_bd (dK n); omega
theorem dparsed_DT {n : Int} (h : 0 ≤ n) (h' : n ≤ 99999) : dparsed (bts (DT n)) = some n := by
  have hk := dK_le h h'
  have hy : 1900 ≤ ky (dK n) ∧ ky (dK n) ≤ 2200 := ⟨ky_ge _, by unfold ky; omega⟩
  have hm := km_bd (dK n)
  have hd := dD_bd h
  have e1 : dval ((bts (DT n)).take 4) = ky (dK n) := dval_tw2 _ (by omega) (by omega)
  have e2 : dval (((bts (DT n)).drop 5).take 2) = km (dK n) := dval_tw _ (by omega) (by omega)
  have e3 : dval ((bts (DT n)).drop 8) = dD n := dval_tw _ (by omega) (by omega)
  unfold dparsed
  rw [if_pos (show (bts (DT n)).length = 10 from rfl), e1, e2, e3, ofDay_is h h']
  simp
theorem dparsed_none {l : List UInt8} (h : dparsed l = none) : ∀ n, 0 ≤ n → n ≤ 99999 → bts (DT n) ≠ l := by
  intro n h0 h1 e
  rw [← e, dparsed_DT h0 h1] at h
  simp at h
theorem of_2000 : ofDay 2000 2 29 = some 36583 := by decide
theorem dK_36583 : dK 36583 = 1201 ∧ dD 36583 = 29 := of_isDay (ofDay_some of_2000).2.2.2.2.2.2.2.2.2
theorem dparsed_2000 : dparsed [50, 48, 48, 48, 45, 48, 50, 45, 50, 57] = some 36583 := by
  have e : bts (DT 36583) = [50, 48, 48, 48, 45, 48, 50, 45, 50, 57] := by
    unfold DT; rw [dK_36583.1, dK_36583.2]; decide
  rw [← e]; exact dparsed_DT (by omega) (by omega)
theorem dparsed_1900 : dparsed [49, 57, 48, 48, 45, 48, 50, 45, 50, 57] = none := by
  have e1 : ofDay (dval (List.take 4 [49, 57, 48, 48, 45, 48, 50, 45, 50, 57])) (dval ((List.drop 5 [49, 57, 48, 48, 45, 48, 50, 45, 50, 57]).take 2)) (dval (List.drop 8 [49, 57, 48, 48, 45, 48, 50, 45, 50, 57])) = none := by decide
  unfold dparsed
  rw [if_pos (by decide), e1]; rfl
/-- The day behind one, by year, month and day of the month. -/
theorem next_day {n : Int} (h : 0 ≤ n) :
    (ky (dK (n + 1)) = ky (dK n) ∧ km (dK (n + 1)) = km (dK n) ∧ dD (n + 1) = dD n + 1)
    ∨ (dD (n + 1) = 1 ∧ 28 ≤ dD n ∧ km (dK (n + 1)) = km (dK n) % 12 + 1 ∧ (km (dK n) < 12 ∧ ky (dK (n + 1)) = ky (dK n) ∨ km (dK n) = 12 ∧ ky (dK (n + 1)) = ky (dK n) + 1)) := by
  have hk := klen_bd (dK n)
  rcases isDay_next (is_day n h) with ⟨_, b⟩ | ⟨a, b⟩
  · obtain ⟨e1, e2⟩ := of_isDay b
    left; rw [e1, e2]; exact ⟨rfl, rfl, rfl⟩
  · obtain ⟨e1, e2⟩ := of_isDay b
    right; rw [e1, e2]
    refine ⟨rfl, by omega, by unfold km; omega, ?_⟩
    unfold km ky; omega
/-- A month's last day. -/
theorem last_day {k : Nat} (h : k ≤ 3284) : 0 ≤ kfd k + klen k - 1 ∧ kfd k + klen k - 1 ≤ 99984 ∧ dK (kfd k + klen k - 1) = k ∧ dK (kfd k + klen k - 1 + 1) = k + 1 := by
  have hl := isDay_last k
  have h0 := day_nn hl
  have h1 := kfd_lt k 3285 (by omega)
  rw [kfd_3285] at h1
  refine ⟨h0, by omega, (of_isDay hl).1, ?_⟩
  rcases isDay_next hl with ⟨a, _⟩ | ⟨_, b⟩
  · omega
  · exact (of_isDay b).1
theorem dK_mono {a b : Int} (h : 0 ≤ a) (h' : a ≤ b) : dK a ≤ dK b := isDay_mono (is_day a h) (is_day b (by omega)) h'
end Go.Proofs.YtcfgacdcgljbaaaGreatDoor
namespace Go.Proofs.YtcfgacdcgljbaaaGreatDoor
open Go.RowKit
theorem dret_int {k : IntKind} {a b : Int} (h : a = b) : Ending.returned (.int k a) = .returned (.int k b) := by rw [h]
theorem dret_bool {a b : Bool} (h : a = b) : Ending.returned (.bool a) = .returned (.bool b) := by rw [h]
/-- How long the k-th month is (from 0), in a year with a short February: the table day.lengths. -/
def ltab (k : Nat) : Int := if k = 1 then 28 else if k = 3 ∨ k = 5 ∨ k = 8 ∨ k = 10 then 30 else 31
/-- The table lies where it was laid. -/
def LenTab (w : World) : Prop := ∀ k : Nat, k < 12 → w.cell? ⟨2, k, none⟩ = some (.int .i64 (ltab k))
theorem LenTab.below {w w' : World} (h : LenTab w) (hb : Below w.heap.size w w') : LenTab w' := by
  intro k hk
  rw [hb.cell (p := ⟨2, k, none⟩) (World.block_lt_of_cell? _ _ (h k hk))]
  exact h k hk
def isLeap (y : Int) : Bool := decide (y % 4 = 0 ∧ (y % 100 ≠ 0 ∨ y % 400 = 0))
theorem mlen_two (y : Int) : mlen y 2 = if isLeap y then 29 else 28 := by
  unfold mlen lpy isLeap
  by_cases h : y % 4 = 0 ∧ (y % 100 ≠ 0 ∨ y % 400 = 0)
  · simp [h]
  · simp [h]
theorem mlen_tab (y : Int) (k : Nat) (h : k < 12) (h2 : k ≠ 1) : mlen y (k + 1) = ltab k := by
  unfold mlen ltab
  rw [if_neg (by omega), if_neg h2]
  by_cases c : k = 3 ∨ k = 5 ∨ k = 8 ∨ k = 10
  · rw [if_pos c, if_pos (by omega)]
  · rw [if_neg c, if_neg (by omega)]
set_option maxHeartbeats 1000000 in
theorem leap_any (y : Int) (w : World) (h0 : 0 ≤ y) (h1 : y ≤ 10000) :
    Calls Tryz.prog 209 #[.int .i64 y] w fun e w' => e = .returned (.bool (isLeap y)) ∧ w' = w := by
  by_cases c1 : y % 4 = 0
  · by_cases c2 : y % 100 = 0
    · by_cases c3 : y % 400 = 0
      · go_enter Tryz.func209, Tryz.ntmps209
        go_wp2
        go_ret
        exact ⟨dret_bool (by simp [isLeap, c1, c2, c3]), rfl⟩
      · go_enter Tryz.func209, Tryz.ntmps209
        go_wp2
        go_ret
        exact ⟨dret_bool (by simp [isLeap, c1, c2, c3]), rfl⟩
    · go_enter Tryz.func209, Tryz.ntmps209
      go_wp2
      go_ret
      exact ⟨dret_bool (by simp [isLeap, c1, c2]), rfl⟩
  · go_enter Tryz.func209, Tryz.ntmps209
    go_wp2
    go_ret
    exact ⟨dret_bool (by simp [isLeap, c1]), rfl⟩
set_option maxHeartbeats 1000000 in
theorem leaps_any (y : Int) (w : World) (h0 : 0 ≤ y) (h1 : y ≤ 10000) :
    Calls Tryz.prog 208 #[.int .i64 y] w fun e w' => e = .returned (.int .i64 (lps y)) ∧ w' = w := by
  have HS : Hid (y / 4 - y / 100 + y / 400 = lps y) := rfl
  go_enter Tryz.func208, Tryz.ntmps208
  go_wp2
  go_ret
  exact ⟨dret_int HS.out, rfl⟩
set_option maxHeartbeats 1000000 in
theorem length_any (y : Int) (k : Nat) (w : World) (hl : LenTab w) (h0 : 0 ≤ y) (h1 : y ≤ 10000) (hk : k < 12) :
    Calls Tryz.prog 153 #[.int .i64 y, .int .i64 (k + 1)] w fun e w' => e = .returned (.int .i64 (mlen y (k + 1))) ∧ w' = w := by
  have hc := hl k hk
  have HT : Hid (k ≠ 1 → mlen y (k + 1) = ltab k) := mlen_tab y k hk
  have H2 : Hid (mlen y 2 = if isLeap y then 29 else 28) := mlen_two y
  clear hl
  by_cases c : k = 1
  · subst c
    rw [show ltab 1 = 28 from rfl] at hc
    rcases hp : isLeap y
    · have hl := leap_any y
      rw [hp] at hl H2
      go_enter Tryz.func153, Tryz.ntmps153
      go_wp2_with (go_at_call 209; refine (hl _ h0 h1).mono ?_; rintro e w' ⟨rfl, hw⟩; subst w')
      go_ret
      exact ⟨dret_int H2.out.symm, rfl⟩
    · have hl := leap_any y
      rw [hp] at hl H2
      go_enter Tryz.func153, Tryz.ntmps153
      go_wp2_with (go_at_call 209; refine (hl _ h0 h1).mono ?_; rintro e w' ⟨rfl, hw⟩; subst w')
      go_ret
      exact ⟨dret_int H2.out.symm, rfl⟩
  · go_enter Tryz.func153, Tryz.ntmps153
    go_wp2
    go_ret
    exact ⟨dret_int (HT.out c).symm, rfl⟩
theorem lps_bd (y : Int) (h0 : 0 ≤ y) (h1 : y ≤ 10000) : 0 ≤ lps y ∧ lps y ≤ 2500 := by unfold lps; omega
theorem lps_1899 : lps 1899 = 460 := by decide
theorem cumN_step (y : Int) (k : Nat) : cumN y (k + 1) = cumN y k + mlen y (k + 1) := rfl
theorem yfd_bd (y : Int) (h0 : 1900 ≤ y) (h1 : y ≤ 9000) : 0 ≤ yfd y ∧ yfd y ≤ 3000000 := by
  have := yfd_low h0; omega
set_option maxHeartbeats 1000000 in
theorem firstOf_any (y : Int) (k : Nat) (w : World) (hl : LenTab w) (h0 : 1900 ≤ y) (h1 : y ≤ 9000) (hk : k < 12) :
    Calls Tryz.prog 152 #[.int .i64 y, .int .i64 (k + 1)] w fun e w' => e = .returned (.int .i64 (yfd y + cumN y k)) ∧ w' = w := by
  have HL : Hid (LenTab w) := hl
  have hb := lps_bd (y - 1) (by omega) (by omega)
  have HY : Hid ((y - 1900) * 365 + lps (y - 1) - 460 = yfd y) := rfl
  have hl2 := leaps_any 1899
  rw [lps_1899] at hl2
  have hyb := yfd_bd y h0 h1
  clear hl
  go_enter Tryz.func152, Tryz.ntmps152
  go_wp2_with fail
  refine (leaps_any (y - 1) _ (by omega) (by omega)).mono ?_
  rintro e w' ⟨rfl, hw⟩
  subst w'
  go_wp2_with fail
  refine (hl2 _ (by omega) (by omega)).mono ?_
  rintro e w' ⟨rfl, hw⟩
  subst w'
  clear hl2
  go_wp2
  rw [HY.out]
  clear HY hb
  go_loop [5, 6] (fun n i => ∃ j : Nat, j ≤ k ∧ i = .int .i64 (j + 1) ∧ n = .int .i64 (yfd y + cumN y j)) (fun _ i => k + 1 - (intOf i).toNat)
  case atStart => exact ⟨0, Nat.zero_le _, rfl, by simp [cumN]⟩
  case round =>
    obtain ⟨j, hj, rfl, rfl⟩ := hrel
    have hcb := cumN_nn y j
    by_cases hlt : j < k
    · have hm := mlen_bd y (j + 1)
      have HS : Hid (cumN y (j + 1) = cumN y j + mlen y (j + 1)) := rfl
      go_wp2_with fail
      refine (length_any y j _ HL.out (by omega) (by omega) (by omega)).mono ?_
      rintro e w' ⟨rfl, hw⟩
      subst w'
      go_wp2
      go_round
      case rel => exact ⟨j + 1, by omega, by go_num, by rw [HS.out]; go_num⟩
      case measure => simp [intOf]; omega
    · obtain rfl : j = k := by omega
      go_wp2
      go_ret
      exact ⟨rfl, rfl⟩
end Go.Proofs.YtcfgacdcgljbaaaGreatDoor
