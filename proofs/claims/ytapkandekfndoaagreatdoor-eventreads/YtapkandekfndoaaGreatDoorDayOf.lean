/- The walks of day.Of and day.Last. -/
import Derived.Test.YtapkandekfndoaaGreatDoorDayParts
namespace Go.Proofs.YtapkandekfndoaaGreatDoor
open Go.RowKit
theorem fst_nat (y : Int) (k : Nat) : fst y (k + 1) = yfd y + cumN y k := by
  unfold fst; rw [show ((k : Int) + 1 - 1).toNat = k by omega]
set_option maxHeartbeats 1000000 in
theorem of_in (y d : Int) (k : Nat) (w : World) (hl : LenTab w) (h0 : 1900 ≤ y) (h1 : y ≤ 2200) (hk : k < 12) (hd : 1 ≤ d) (hd' : d ≤ mlen y (k + 1)) (hn : yfd y + cumN y k + d - 1 ≤ 99999) :
    Calls Tryz.prog 17 #[.int .i64 y, .int .i64 (k + 1), .int .i64 d] w fun e w' => e = .returned (.tuple #[.int .i64 (yfd y + cumN y k + d - 1), .nilIface]) ∧ w' = w := by
  have HL : Hid (LenTab w) := hl
  have hm := mlen_bd y (k + 1)
  have hb := yfd_bd y h0 (by omega)
  have hc := cumN_nn y k
  clear hl
  go_enter Tryz.func17, Tryz.ntmps17
  go_wp2_with fail
  refine (length_any y k _ HL.out (by omega) (by omega) hk).mono ?_
  rintro e w' ⟨rfl, hw⟩
  subst w'
  go_wp2_with fail
  refine (firstOf_any y k _ HL.out (by omega) (by omega) hk).mono ?_
  rintro e w' ⟨rfl, hw⟩
  subst w'
  go_wp2
  go_ret2
  exact ⟨rfl, rfl⟩
set_option maxHeartbeats 1000000 in
theorem of_over (y d : Int) (k : Nat) (w : World) (hl : LenTab w) (h0 : 1900 ≤ y) (h1 : y ≤ 2200) (hk : k < 12) (hd : 1 ≤ d) (hd' : d ≤ mlen y (k + 1)) (hn : 99999 < yfd y + cumN y k + d - 1) :
    Calls Tryz.prog 17 #[.int .i64 y, .int .i64 (k + 1), .int .i64 d] w fun e w' => e = .returned (.tuple #[.int .i64 0, .iface 23 (.int .i64 1)]) ∧ w' = w := by
  have HL : Hid (LenTab w) := hl
  have hm := mlen_bd y (k + 1)
  have hb := yfd_bd y h0 (by omega)
  have hc := cumN_nn y k
  clear hl
  go_enter Tryz.func17, Tryz.ntmps17
  go_wp2_with fail
  refine (length_any y k _ HL.out (by omega) (by omega) hk).mono ?_
  rintro e w' ⟨rfl, hw⟩
  subst w'
  go_wp2_with fail
  refine (firstOf_any y k _ HL.out (by omega) (by omega) hk).mono ?_
  rintro e w' ⟨rfl, hw⟩
  subst w'
  go_wp2
  go_ret2
  exact ⟨rfl, rfl⟩
set_option maxHeartbeats 1000000 in
theorem of_day (y d : Int) (k : Nat) (w : World) (hl : LenTab w) (h0 : 1900 ≤ y) (h1 : y ≤ 2200) (hk : k < 12) (hd : d < 1 ∨ mlen y (k + 1) < d) :
    Calls Tryz.prog 17 #[.int .i64 y, .int .i64 (k + 1), .int .i64 d] w fun e w' => e = .returned (.tuple #[.int .i64 0, .iface 23 (.int .i64 1)]) ∧ w' = w := by
  have HL : Hid (LenTab w) := hl
  have hm := mlen_bd y (k + 1)
  clear hl
  by_cases c : d < 1
  · go_enter Tryz.func17, Tryz.ntmps17
    go_wp2
    go_ret2
    exact ⟨rfl, rfl⟩
  · go_enter Tryz.func17, Tryz.ntmps17
    go_wp2_with fail
    refine (length_any y k _ HL.out (by omega) (by omega) hk).mono ?_
    rintro e w' ⟨rfl, hw⟩
    subst w'
    go_wp2
    go_ret2
    exact ⟨rfl, rfl⟩
set_option maxHeartbeats 1000000 in
theorem of_out (y m d : Int) (w : World) (h : y < 1900 ∨ 2200 < y ∨ m < 1 ∨ 12 < m) :
    Calls Tryz.prog 17 #[.int .i64 y, .int .i64 m, .int .i64 d] w fun e w' => e = .returned (.tuple #[.int .i64 0, .iface 23 (.int .i64 1)]) ∧ w' = w := by
  by_cases c1 : y < 1900
  · go_enter Tryz.func17, Tryz.ntmps17
    go_wp2
    go_ret2
    exact ⟨rfl, rfl⟩
  · by_cases c2 : 2200 < y
    · go_enter Tryz.func17, Tryz.ntmps17
      go_wp2
      go_ret2
      exact ⟨rfl, rfl⟩
    · by_cases c3 : m < 1
      · go_enter Tryz.func17, Tryz.ntmps17
        go_wp2
        go_ret2
        exact ⟨rfl, rfl⟩
      · go_enter Tryz.func17, Tryz.ntmps17
        go_wp2
        go_ret2
        exact ⟨rfl, rfl⟩
theorem of_ok (y m d n : Int) (w : World) (hl : LenTab w) (h : ofDay y m d = some n) :
    Calls Tryz.prog 17 #[.int .i64 y, .int .i64 m, .int .i64 d] w fun e w' => e = .returned (.tuple #[.int .i64 n, .nilIface]) ∧ w' = w := by
  obtain ⟨a, b, c, e, f, g, i, j, k, l⟩ := ofDay_some h
  obtain ⟨q, rfl⟩ : ∃ q : Nat, m = q + 1 := ⟨(m - 1).toNat, by omega⟩
  rw [fst_nat] at i
  subst i
  exact of_in y d q w hl a b (by omega) f g (by omega)
theorem of_bad (y m d : Int) (w : World) (hl : LenTab w) (h : ofDay y m d = none) :
    Calls Tryz.prog 17 #[.int .i64 y, .int .i64 m, .int .i64 d] w fun e w' => e = .returned (.tuple #[.int .i64 0, .iface 23 (.int .i64 1)]) ∧ w' = w := by
  by_cases c : 1900 ≤ y ∧ y ≤ 2200 ∧ 1 ≤ m ∧ m ≤ 12
  · obtain ⟨c1, c2, c3, c4⟩ := c
    obtain ⟨q, rfl⟩ : ∃ q : Nat, m = q + 1 := ⟨(m - 1).toNat, by omega⟩
    by_cases e : 1 ≤ d ∧ d ≤ mlen y (q + 1)
    · have : ¬ yfd y + cumN y q + d - 1 ≤ 99999 := by
        intro hn
        unfold ofDay at h
        rw [if_pos ⟨c1, c2, c3, c4, e.1, e.2, by rw [fst_nat]; exact hn⟩] at h
        simp at h
      exact of_over y d q w hl c1 c2 (by omega) e.1 e.2 (by omega)
    · exact of_day y d q w hl c1 c2 (by omega) (by omega)
  · exact of_out y m d w (by omega)
/-- A month's last day, or nothing. -/
def lastDay (m : Int) : Option Int := if 0 ≤ m ∧ m ≤ 3285 then some (if m = 3285 then 99999 else kfd m.toNat + klen m.toNat - 1) else none
theorem kfd_hi {k : Nat} (h : 3286 ≤ k) : 100016 ≤ kfd k := by
  by_cases e : k = 3286
  · rw [e, kfd_3286]; omega
  · have := kfd_lt 3286 k (by omega); have := klen_bd 3286; rw [kfd_3286] at *; omega
theorem kfd_lo {k : Nat} (h : k ≤ 3285) : kfd k ≤ 99985 ∧ (k ≤ 3284 → kfd k + klen k ≤ 99985) := by
  by_cases e : k = 3285
  · rw [e, kfd_3285]; exact ⟨by omega, fun h => by omega⟩
  · have := kfd_lt k 3285 (by omega); have := klen_bd k; rw [kfd_3285] at *; exact ⟨by omega, fun h => by omega⟩
theorem klen_3285 : klen 3285 = 31 := by decide
theorem last_nat (k : Nat) : (1900 + ((k : Int) / 12) = ky k) ∧ ((k : Int) % 12 + 1 = ((k % 12 : Nat) : Int) + 1) := by unfold ky; omega
theorem first_k (k : Nat) (w : World) (hl : LenTab w) (h : k ≤ 3600) :
    Calls Tryz.prog 52 #[.int .i64 (1900 + (k : Int) / 12), .int .i64 ((k : Int) % 12 + 1)] w fun e w' => e = .returned (.int .i64 (kfd k)) ∧ w' = w := by
  have e := last_nat k
  rw [e.1, e.2, kfd_eq k]
  exact firstOf_any (ky k) (k % 12) w hl (ky_ge k) (by unfold ky; omega) (by omega)
theorem len_k (k : Nat) (w : World) (hl : LenTab w) (h : k ≤ 3600) :
    Calls Tryz.prog 51 #[.int .i64 (1900 + (k : Int) / 12), .int .i64 ((k : Int) % 12 + 1)] w fun e w' => e = .returned (.int .i64 (klen k)) ∧ w' = w := by
  have e := last_nat k
  rw [e.1, e.2]
  exact length_any (ky k) (k % 12) w hl (by have := ky_ge k; omega) (by unfold ky; omega) (by omega)
theorem kfd_up : ∀ k : Nat, kfd k ≤ 31 * (k : Int)
  | 0 => by simp [kfd]
  | k + 1 => by have := kfd_up k; have := klen_bd k; simp only [kfd]; omega
set_option maxHeartbeats 1000000 in
theorem last_ok (k : Nat) (n : Int) (w : World) (hl : LenTab w) (h : k ≤ 3285) (hn : n = if k = 3285 then 99999 else kfd k + klen k - 1) :
    Calls Tryz.prog 23 #[.int .i64 k] w fun e w' => e = .returned (.tuple #[.int .i64 n, .nilIface]) ∧ w' = w := by
  have HL : Hid (LenTab w) := hl
  have hu := kfd_lo h
  have hb := klen_bd k
  have h0 := kfd_nn k
  have HN : Hid (min (kfd k + klen k - 1) 99999 = n) := by
    show _ = n
    rw [hn]
    by_cases e : k = 3285
    · rw [if_pos e, e, kfd_3285, klen_3285]; omega
    · rw [if_neg e]; have := hu.2 (by omega); omega
  have hu1 := hu.1
  clear hl hn hu
  go_enter Tryz.func23, Tryz.ntmps23
  go_wp2_with fail
  refine (first_k k _ HL.out (by omega)).mono ?_
  rintro e w' ⟨rfl, hw⟩
  subst w'
  go_wp2_with fail
  refine (len_k k _ HL.out (by omega)).mono ?_
  rintro e w' ⟨rfl, hw⟩
  subst w'
  go_wp2
  · go_ret2
    exact ⟨tup2 (by have := HN.out; omega), rfl⟩
  · go_ret2
    exact ⟨tup2 (by have := HN.out; omega), rfl⟩
set_option maxHeartbeats 1000000 in
theorem last_over (k : Nat) (w : World) (hl : LenTab w) (h : 3286 ≤ k) (h' : k ≤ 3600) :
    Calls Tryz.prog 23 #[.int .i64 k] w fun e w' => e = .returned (.tuple #[.int .i64 0, .iface 23 (.int .i64 1)]) ∧ w' = w := by
  have HL : Hid (LenTab w) := hl
  have hu := kfd_hi h
  have h0 := kfd_up k
  clear hl
  go_enter Tryz.func23, Tryz.ntmps23
  go_wp2_with fail
  refine (first_k k _ HL.out (by omega)).mono ?_
  rintro e w' ⟨rfl, hw⟩
  subst w'
  go_wp2
  go_ret2
  exact ⟨rfl, rfl⟩
set_option maxHeartbeats 1000000 in
theorem last_out (m : Int) (w : World) (h : m < 0 ∨ 3600 < m) :
    Calls Tryz.prog 23 #[.int .i64 m] w fun e w' => e = .returned (.tuple #[.int .i64 0, .iface 23 (.int .i64 1)]) ∧ w' = w := by
  by_cases c : m < 0
  · go_enter Tryz.func23, Tryz.ntmps23
    go_wp2
    go_ret2
    exact ⟨rfl, rfl⟩
  · go_enter Tryz.func23, Tryz.ntmps23
    go_wp2
    go_ret2
    exact ⟨rfl, rfl⟩
theorem last_some (m n : Int) (w : World) (hl : LenTab w) (h : lastDay m = some n) :
    Calls Tryz.prog 23 #[.int .i64 m] w fun e w' => e = .returned (.tuple #[.int .i64 n, .nilIface]) ∧ w' = w := by
  unfold lastDay at h
  by_cases c : 0 ≤ m ∧ m ≤ 3285
  · rw [if_pos c] at h
    obtain ⟨k, rfl⟩ : ∃ k : Nat, m = (k : Int) := ⟨m.toNat, by omega⟩
    refine last_ok k n w hl (by omega) ?_
    rw [← Option.some.inj h]
    by_cases e : k = 3285
    · rw [if_pos (by omega), if_pos e]
    · rw [if_neg (by omega), if_neg e]; rfl
  · rw [if_neg c] at h; simp at h
theorem last_none (m : Int) (w : World) (hl : LenTab w) (h : lastDay m = none) :
    Calls Tryz.prog 23 #[.int .i64 m] w fun e w' => e = .returned (.tuple #[.int .i64 0, .iface 23 (.int .i64 1)]) ∧ w' = w := by
  unfold lastDay at h
  by_cases c : 0 ≤ m ∧ m ≤ 3285
  · rw [if_pos c] at h; simp at h
  · by_cases c2 : 0 ≤ m ∧ m ≤ 3600
    · obtain ⟨k, rfl⟩ : ∃ k : Nat, m = (k : Int) := ⟨m.toNat, by omega⟩
      exact last_over k w hl (by omega) (by omega)
    · exact last_out m w (by omega)
end Go.Proofs.YtapkandekfndoaaGreatDoor
