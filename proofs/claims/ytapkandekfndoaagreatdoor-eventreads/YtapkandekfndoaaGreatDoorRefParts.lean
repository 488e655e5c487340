/- The walks of tallymanref.Parts, Month and Last. -/
import Derived.Test.YtapkandekfndoaaGreatDoorRefDay
namespace Go.Proofs.YtapkandekfndoaaGreatDoor
open Go.RowKit
theorem rparts_is {n : Int} {k : Nat} (h0 : 0 ≤ n - kfd k) (h1 : n - kfd k < klen k) : 1900 + (k : Int) / 12 = ky (dK n) ∧ (k : Int) % 12 + 1 = km (dK n) ∧ n - kfd k + 1 = dD n := by
  have hi : IsDay n k (n - kfd k + 1) := ⟨by omega, by omega, by omega⟩
  obtain ⟨e1, e2⟩ := of_isDay hi
  rw [e1, e2]
  refine ⟨(last_nat k).1, ?_, rfl⟩
  rw [(last_nat k).2]; rfl
set_option maxHeartbeats 2000000 in
theorem rparts_ok (n : Int) (w : World) (h0 : 0 ≤ n) (h1 : n ≤ 99999) :
    Calls Tryz.prog 18 #[.int .i64 n] w fun e w' => e = .returned (.tuple #[.int .i64 (ky (dK n)), .int .i64 (km (dK n)), .int .i64 (dD n), .int .i64 0]) ∧ w' = w := by
  go_enter Tryz.func18, Tryz.ntmps18
  go_wp2_with (go_at_call 38; refine (in_yes _ _ _ _ (by omega) (by omega)).mono ?_; rintro e w' ⟨rfl, hw⟩; subst w')
  go_loop [0, 6] (fun v i => ∃ k : Nat, i = .int .i64 k ∧ v = .int .i64 (n - kfd k) ∧ 0 ≤ n - kfd k) (fun v _ => (intOf v).toNat)
  case atStart => exact ⟨0, rfl, by simp [kfd], by simp [kfd]; omega⟩
  case round =>
    obtain ⟨k, rfl, rfl, hn⟩ := hrel
    have hlow := kfd_low k
    have hnn := kfd_nn k
    have hkb := klen_bd k
    have hk : k ≤ 3600 := by omega
    go_wp2_with fail
    refine (rdays_k k _ (by omega)).mono ?_
    rintro e w' ⟨rfl, hw⟩
    subst w'
    by_cases hc : klen k ≤ n - kfd k
    · have HS : Hid (kfd (k + 1) = kfd k + klen k) := rfl
      go_wp2_with fail
      refine (rdays_k k _ (by omega)).mono ?_
      rintro e w' ⟨rfl, hw⟩
      subst w'
      go_wp2
      go_round
      case rel =>
        have := HS.out
        exact ⟨k + 1, by go_num, by go_num, by omega⟩
      case measure => simp [intOf]; omega
    · have HP : Hid (1900 + (k : Int) / 12 = ky (dK n) ∧ (k : Int) % 12 + 1 = km (dK n) ∧ n - kfd k + 1 = dD n) := rparts_is hn (by omega)
      go_wp2
      (try simp only [Exit.inBlock, Exit.then])
      refine bodyPost_ret (four_results rfl _ _ _) rfl ?_
      exact ⟨tup4 HP.out.1 HP.out.2.1 HP.out.2.2, rfl⟩
set_option maxHeartbeats 1000000 in
theorem rparts_bad (n : Int) (w : World) (h : n < 0 ∨ 99999 < n) :
    Calls Tryz.prog 18 #[.int .i64 n] w fun e w' => e = .returned (.tuple #[.int .i64 0, .int .i64 0, .int .i64 0, .int .i64 1]) ∧ w' = w := by
  go_enter Tryz.func18, Tryz.ntmps18
  go_wp2_with (go_at_call 38; refine (in_no _ _ _ _ (by omega)).mono ?_; rintro e w' ⟨rfl, hw⟩; subst w')
  (try simp only [Exit.inBlock, Exit.then])
  refine bodyPost_ret (four_results rfl _ _ _) rfl ?_
  exact ⟨rfl, rfl⟩
theorem rmonth_is (k : Nat) : 12 * ky k + km k - 22800 - 1 = (k : Int) := by unfold ky km; omega
set_option maxHeartbeats 1000000 in
theorem rmonth_ok (n : Int) (w : World) (h0 : 0 ≤ n) (h1 : n ≤ 99999) :
    Calls Tryz.prog 20 #[.int .i64 n] w fun e w' => e = .returned (.tuple #[.int .i64 (dK n : Int), .int .i64 0]) ∧ w' = w := by
  have hk := dK_le h0 h1
  have hy : 1900 ≤ ky (dK n) ∧ ky (dK n) ≤ 2200 := ⟨ky_ge _, by unfold ky; omega⟩
  have hm := km_bd (dK n)
  have HM : Hid (12 * ky (dK n) + km (dK n) - 22800 - 1 = (dK n : Int)) := rmonth_is (dK n)
  clear hk
  go_enter Tryz.func20, Tryz.ntmps20
  go_wp2_with fail
  refine (rparts_ok n _ h0 h1).mono ?_
  rintro e w' ⟨rfl, hw⟩
  subst w'
  go_wp2
  go_ret2
  exact ⟨tup2 HM.out, rfl⟩
set_option maxHeartbeats 1000000 in
theorem rmonth_bad (n : Int) (w : World) (h : n < 0 ∨ 99999 < n) :
    Calls Tryz.prog 20 #[.int .i64 n] w fun e w' => e = .returned (.tuple #[.int .i64 0, .int .i64 1]) ∧ w' = w := by
  go_enter Tryz.func20, Tryz.ntmps20
  go_wp2_with fail
  refine (rparts_bad n _ h).mono ?_
  rintro e w' ⟨rfl, hw⟩
  subst w'
  go_wp2
  go_ret2
  exact ⟨rfl, rfl⟩
theorem first_of {k : Nat} (h : k ≤ 3600) : ofDay (1900 + (k : Int) / 12) ((k : Int) % 12 + 1) 1 = if k ≤ 3285 then some (kfd k) else none := by
  have e1 : 1900 + (k : Int) / 12 = ky k := (last_nat k).1
  have e2 : (k : Int) % 12 + 1 = km k := by rw [(last_nat k).2]; rfl
  rw [e1, e2]
  have hy : 1900 ≤ ky k ∧ ky k ≤ 2200 := ⟨ky_ge _, by unfold ky; omega⟩
  have hm := km_bd k
  have hl := mlen_bd (ky k) (km k)
  have hf : fst (ky k) (km k) + 1 - 1 = kfd k := by rw [fst_k]; omega
  unfold ofDay
  rw [hf]
  by_cases c : k ≤ 3285
  · rw [if_pos c, if_pos ⟨hy.1, hy.2, hm.1, hm.2, by omega, by omega, by have := (kfd_lo c).1; omega⟩]
  · rw [if_neg c, if_neg]
    intro hh
    have := kfd_hi (k := k) (by omega)
    omega
set_option maxHeartbeats 1000000 in
theorem rlast_ok (k : Nat) (n : Int) (w : World) (h : k ≤ 3285) (hn : n = if k = 3285 then 99999 else kfd k + klen k - 1) :
    Calls Tryz.prog 22 #[.int .i64 k] w fun e w' => e = .returned (.tuple #[.int .i64 n, .int .i64 0]) ∧ w' = w := by
  have hu := kfd_lo h
  have hb := klen_bd k
  have h0 := kfd_nn k
  have HN : Hid (min (kfd k + klen k - 1) 99999 = n) := by
    show _ = n
    rw [hn]
    by_cases e : k = 3285
    · rw [if_pos e, e, kfd_3285, klen_3285]; omega
    · rw [if_neg e]; have := hu.2 (by omega); omega
  have hu1 := hu.1
  have HO : Hid (ofDay (1900 + (k : Int) / 12) ((k : Int) % 12 + 1) 1 = some (kfd k)) := by
    show _ = _; rw [first_of (by omega), if_pos h]
  clear hn hu
  by_cases hc : kfd k + (klen k - 1) ≤ 99999
  · go_enter Tryz.func22, Tryz.ntmps22
    go_wp2_with (go_at_call 38; refine (in_yes _ _ _ _ (by omega) (by omega)).mono ?_; rintro e w' ⟨rfl, hw⟩; subst w')
    refine (rday_ok _ _ _ (kfd k) _ HO.out).mono ?_
    rintro e w' ⟨rfl, hw⟩
    subst w'
    go_wp2_with fail
    refine (rdays_k k _ (by omega)).mono ?_
    rintro e w' ⟨rfl, hw⟩
    subst w'
    go_wp2
    go_ret2
    exact ⟨tup2 (by have := HN.out; omega), rfl⟩
  · go_enter Tryz.func22, Tryz.ntmps22
    go_wp2_with (go_at_call 38; refine (in_yes _ _ _ _ (by omega) (by omega)).mono ?_; rintro e w' ⟨rfl, hw⟩; subst w')
    refine (rday_ok _ _ _ (kfd k) _ HO.out).mono ?_
    rintro e w' ⟨rfl, hw⟩
    subst w'
    go_wp2_with fail
    refine (rdays_k k _ (by omega)).mono ?_
    rintro e w' ⟨rfl, hw⟩
    subst w'
    go_wp2
    go_ret2
    exact ⟨tup2 (by have := HN.out; omega), rfl⟩
set_option maxHeartbeats 1000000 in
theorem rlast_over (k : Nat) (w : World) (h : 3286 ≤ k) (h' : k ≤ 3600) :
    Calls Tryz.prog 22 #[.int .i64 k] w fun e w' => e = .returned (.tuple #[.int .i64 0, .int .i64 1]) ∧ w' = w := by
  have HO : Hid (ofDay (1900 + (k : Int) / 12) ((k : Int) % 12 + 1) 1 = none) := by
    show _ = _; rw [first_of h', if_neg (by omega)]
  go_enter Tryz.func22, Tryz.ntmps22
  go_wp2_with (go_at_call 38; refine (in_yes _ _ _ _ (by omega) (by omega)).mono ?_; rintro e w' ⟨rfl, hw⟩; subst w')
  refine (rday_bad _ _ _ _ HO.out).mono ?_
  rintro e w' ⟨rfl, hw⟩
  subst w'
  go_wp2
  go_ret2
  exact ⟨rfl, rfl⟩
set_option maxHeartbeats 1000000 in
theorem rlast_out (m : Int) (w : World) (h : m < 0 ∨ 3600 < m) :
    Calls Tryz.prog 22 #[.int .i64 m] w fun e w' => e = .returned (.tuple #[.int .i64 0, .int .i64 1]) ∧ w' = w := by
  go_enter Tryz.func22, Tryz.ntmps22
  go_wp2_with (go_at_call 38; refine (in_no _ _ _ _ (by omega)).mono ?_; rintro e w' ⟨rfl, hw⟩; subst w')
  go_ret2
  exact ⟨rfl, rfl⟩
theorem rlast_some (m n : Int) (w : World) (h : lastDay m = some n) :
    Calls Tryz.prog 22 #[.int .i64 m] w fun e w' => e = .returned (.tuple #[.int .i64 n, .int .i64 0]) ∧ w' = w := by
  unfold lastDay at h
  by_cases c : 0 ≤ m ∧ m ≤ 3285
  · rw [if_pos c] at h
    obtain ⟨k, rfl⟩ : ∃ k : Nat, m = (k : Int) := ⟨m.toNat, by omega⟩
    refine rlast_ok k n w (by omega) ?_
    rw [← Option.some.inj h]
    by_cases e : k = 3285
    · rw [if_pos (by omega), if_pos e]
    · rw [if_neg (by omega), if_neg e]; rfl
  · rw [if_neg c] at h; simp at h
theorem rlast_none (m : Int) (w : World) (h : lastDay m = none) :
    Calls Tryz.prog 22 #[.int .i64 m] w fun e w' => e = .returned (.tuple #[.int .i64 0, .int .i64 1]) ∧ w' = w := by
  unfold lastDay at h
  by_cases c : 0 ≤ m ∧ m ≤ 3285
  · rw [if_pos c] at h; simp at h
  · by_cases c2 : 0 ≤ m ∧ m ≤ 3600
    · obtain ⟨k, rfl⟩ : ∃ k : Nat, m = (k : Int) := ⟨m.toNat, by omega⟩
      exact rlast_over k w (by omega) (by omega)
    · exact rlast_out m w (by omega)
end Go.Proofs.YtapkandekfndoaaGreatDoor
