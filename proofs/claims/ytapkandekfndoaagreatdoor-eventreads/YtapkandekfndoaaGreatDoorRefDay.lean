/- The walks of tallymanref.days, Day, Parts, Month and Last. -/
import Derived.Test.YtapkandekfndoaaGreatDoorGlob
import Derived.Test.YtapkandekfndoaaGreatDoorDayOf
namespace Go.Proofs.YtapkandekfndoaaGreatDoor
open Go.RowKit
theorem ix1 (w : World) : (Instr.index 99 (.agg #[.int .i64 0, .int .i64 31, .int .i64 28, .int .i64 31, .int .i64 30, .int .i64 31, .int .i64 30, .int .i64 31, .int .i64 31, .int .i64 30, .int .i64 31, .int .i64 30, .int .i64 31]) (.int .i64 1)).run Tryz.prog w = .ok (.int .i64 31) w := by kernel_rfl
theorem ix2 (w : World) : (Instr.index 99 (.agg #[.int .i64 0, .int .i64 31, .int .i64 28, .int .i64 31, .int .i64 30, .int .i64 31, .int .i64 30, .int .i64 31, .int .i64 31, .int .i64 30, .int .i64 31, .int .i64 30, .int .i64 31]) (.int .i64 2)).run Tryz.prog w = .ok (.int .i64 28) w := by kernel_rfl
theorem ix3 (w : World) : (Instr.index 99 (.agg #[.int .i64 0, .int .i64 31, .int .i64 28, .int .i64 31, .int .i64 30, .int .i64 31, .int .i64 30, .int .i64 31, .int .i64 31, .int .i64 30, .int .i64 31, .int .i64 30, .int .i64 31]) (.int .i64 3)).run Tryz.prog w = .ok (.int .i64 31) w := by kernel_rfl
theorem ix4 (w : World) : (Instr.index 99 (.agg #[.int .i64 0, .int .i64 31, .int .i64 28, .int .i64 31, .int .i64 30, .int .i64 31, .int .i64 30, .int .i64 31, .int .i64 31, .int .i64 30, .int .i64 31, .int .i64 30, .int .i64 31]) (.int .i64 4)).run Tryz.prog w = .ok (.int .i64 30) w := by kernel_rfl
theorem ix5 (w : World) : (Instr.index 99 (.agg #[.int .i64 0, .int .i64 31, .int .i64 28, .int .i64 31, .int .i64 30, .int .i64 31, .int .i64 30, .int .i64 31, .int .i64 31, .int .i64 30, .int .i64 31, .int .i64 30, .int .i64 31]) (.int .i64 5)).run Tryz.prog w = .ok (.int .i64 31) w := by kernel_rfl
theorem ix6 (w : World) : (Instr.index 99 (.agg #[.int .i64 0, .int .i64 31, .int .i64 28, .int .i64 31, .int .i64 30, .int .i64 31, .int .i64 30, .int .i64 31, .int .i64 31, .int .i64 30, .int .i64 31, .int .i64 30, .int .i64 31]) (.int .i64 6)).run Tryz.prog w = .ok (.int .i64 30) w := by kernel_rfl
theorem ix7 (w : World) : (Instr.index 99 (.agg #[.int .i64 0, .int .i64 31, .int .i64 28, .int .i64 31, .int .i64 30, .int .i64 31, .int .i64 30, .int .i64 31, .int .i64 31, .int .i64 30, .int .i64 31, .int .i64 30, .int .i64 31]) (.int .i64 7)).run Tryz.prog w = .ok (.int .i64 31) w := by kernel_rfl
theorem ix8 (w : World) : (Instr.index 99 (.agg #[.int .i64 0, .int .i64 31, .int .i64 28, .int .i64 31, .int .i64 30, .int .i64 31, .int .i64 30, .int .i64 31, .int .i64 31, .int .i64 30, .int .i64 31, .int .i64 30, .int .i64 31]) (.int .i64 8)).run Tryz.prog w = .ok (.int .i64 31) w := by kernel_rfl
theorem ix9 (w : World) : (Instr.index 99 (.agg #[.int .i64 0, .int .i64 31, .int .i64 28, .int .i64 31, .int .i64 30, .int .i64 31, .int .i64 30, .int .i64 31, .int .i64 31, .int .i64 30, .int .i64 31, .int .i64 30, .int .i64 31]) (.int .i64 9)).run Tryz.prog w = .ok (.int .i64 30) w := by kernel_rfl
theorem ix10 (w : World) : (Instr.index 99 (.agg #[.int .i64 0, .int .i64 31, .int .i64 28, .int .i64 31, .int .i64 30, .int .i64 31, .int .i64 30, .int .i64 31, .int .i64 31, .int .i64 30, .int .i64 31, .int .i64 30, .int .i64 31]) (.int .i64 10)).run Tryz.prog w = .ok (.int .i64 31) w := by kernel_rfl
theorem ix11 (w : World) : (Instr.index 99 (.agg #[.int .i64 0, .int .i64 31, .int .i64 28, .int .i64 31, .int .i64 30, .int .i64 31, .int .i64 30, .int .i64 31, .int .i64 31, .int .i64 30, .int .i64 31, .int .i64 30, .int .i64 31]) (.int .i64 11)).run Tryz.prog w = .ok (.int .i64 30) w := by kernel_rfl
theorem ix12 (w : World) : (Instr.index 99 (.agg #[.int .i64 0, .int .i64 31, .int .i64 28, .int .i64 31, .int .i64 30, .int .i64 31, .int .i64 30, .int .i64 31, .int .i64 31, .int .i64 30, .int .i64 31, .int .i64 30, .int .i64 31]) (.int .i64 12)).run Tryz.prog w = .ok (.int .i64 31) w := by kernel_rfl
set_option maxRecDepth 20000 in
set_option maxHeartbeats 1000000 in
theorem rdays_feb (y : Int) (w : World) (h0 : 0 ≤ y) (h1 : y ≤ 10000) :
    Calls Tryz.prog 50 #[.int .i64 y, .int .i64 2] w fun e w' => e = .returned (.int .i64 (mlen y 2)) ∧ w' = w := by
  have hix := ix2 w
  have H2 : Hid (mlen y 2 = if isLeap y then 29 else 28) := mlen_two y
  by_cases c3 : y % 400 = 0
  · have hp : Hid (isLeap y = true) := by show isLeap y = true; simp [isLeap]; omega
    go_enter Tryz.func50, Tryz.ntmps50
    go_wp2
    go_ret
    exact ⟨dret_int (by rw [H2.out, hp.out]; rfl), rfl⟩
  · by_cases c1 : y % 4 = 0
    · by_cases c2 : y % 100 = 0
      · have hp : Hid (isLeap y = false) := by show isLeap y = false; simp [isLeap]; omega
        go_enter Tryz.func50, Tryz.ntmps50
        go_wp2
        go_ret
        exact ⟨dret_int (by rw [H2.out, hp.out]; rfl), rfl⟩
      · have hp : Hid (isLeap y = true) := by show isLeap y = true; simp [isLeap]; omega
        go_enter Tryz.func50, Tryz.ntmps50
        go_wp2
        · go_ret
          exact ⟨dret_int (by rw [H2.out, hp.out]; rfl), rfl⟩
        · rename_i hh
          exact absurd hh.2 (by simp [c2])
    · have hp : Hid (isLeap y = false) := by show isLeap y = false; simp [isLeap]; omega
      go_enter Tryz.func50, Tryz.ntmps50
      go_wp2
      go_ret
      exact ⟨dret_int (by rw [H2.out, hp.out]; rfl), rfl⟩
set_option maxRecDepth 20000 in
set_option maxHeartbeats 1000000 in
theorem rdays_any (y m : Int) (w : World) (h0 : 0 ≤ y) (h1 : y ≤ 10000) (hm : 1 ≤ m) (hm' : m ≤ 12) :
    Calls Tryz.prog 50 #[.int .i64 y, .int .i64 m] w fun e w' => e = .returned (.int .i64 (mlen y m)) ∧ w' = w := by
  have hc : m = 2 ∨ m = 1 ∨ m = 3 ∨ m = 4 ∨ m = 5 ∨ m = 6 ∨ m = 7 ∨ m = 8 ∨ m = 9 ∨ m = 10 ∨ m = 11 ∨ m = 12 := by omega
  rcases hc with rfl | rfl | rfl | rfl | rfl | rfl | rfl | rfl | rfl | rfl | rfl | rfl
  · exact rdays_feb y w h0 h1
  · have hix := ix1 w
    go_enter Tryz.func50, Tryz.ntmps50
    go_wp2
    go_ret
    exact ⟨rfl, rfl⟩
  · have hix := ix3 w
    go_enter Tryz.func50, Tryz.ntmps50
    go_wp2
    go_ret
    exact ⟨rfl, rfl⟩
  · have hix := ix4 w
    go_enter Tryz.func50, Tryz.ntmps50
    go_wp2
    go_ret
    exact ⟨rfl, rfl⟩
  · have hix := ix5 w
    go_enter Tryz.func50, Tryz.ntmps50
    go_wp2
    go_ret
    exact ⟨rfl, rfl⟩
  · have hix := ix6 w
    go_enter Tryz.func50, Tryz.ntmps50
    go_wp2
    go_ret
    exact ⟨rfl, rfl⟩
  · have hix := ix7 w
    go_enter Tryz.func50, Tryz.ntmps50
    go_wp2
    go_ret
    exact ⟨rfl, rfl⟩
  · have hix := ix8 w
    go_enter Tryz.func50, Tryz.ntmps50
    go_wp2
    go_ret
    exact ⟨rfl, rfl⟩
  · have hix := ix9 w
    go_enter Tryz.func50, Tryz.ntmps50
    go_wp2
    go_ret
    exact ⟨rfl, rfl⟩
  · have hix := ix10 w
    go_enter Tryz.func50, Tryz.ntmps50
    go_wp2
    go_ret
    exact ⟨rfl, rfl⟩
  · have hix := ix11 w
    go_enter Tryz.func50, Tryz.ntmps50
    go_wp2
    go_ret
    exact ⟨rfl, rfl⟩
  · have hix := ix12 w
    go_enter Tryz.func50, Tryz.ntmps50
    go_wp2
    go_ret
    exact ⟨rfl, rfl⟩
theorem rdays_k (k : Nat) (w : World) (h : k ≤ 3620) :
    Calls Tryz.prog 50 #[.int .i64 (1900 + (k : Int) / 12), .int .i64 ((k : Int) % 12 + 1)] w fun e w' => e = .returned (.int .i64 (klen k)) ∧ w' = w := by
  have e := last_nat k
  rw [e.1, e.2]
  exact rdays_any (ky k) (((k % 12 : Nat) : Int) + 1) w (by have := ky_ge k; omega) (by unfold ky; omega) (by omega) (by omega)
set_option maxHeartbeats 2000000 in
theorem rday_in (y m d : Int) (w : World) (h0 : 1900 ≤ y) (h1 : y ≤ 2200) (hm : 1 ≤ m) (hm' : m ≤ 12) (hd : 1 ≤ d) (hd' : d ≤ mlen y m) (hn : fst y m + d - 1 ≤ 99999) :
    Calls Tryz.prog 16 #[.int .i64 y, .int .i64 m, .int .i64 d] w fun e w' => e = .returned (.tuple #[.int .i64 (fst y m + d - 1), .int .i64 0]) ∧ w' = w := by
  have hb := mlen_bd y m
  have HF : Hid (kfd (mk y m) + d - 1 = fst y m + d - 1) := by show _ = _; rw [fst_mk h0 hm hm']
  obtain ⟨K, hK⟩ : ∃ K : Nat, K = mk y m := ⟨_, rfl⟩
  have hKe : (y - 1900) * 12 + m - 1 = (K : Int) := by rw [hK]; unfold mk; omega
  rw [← hK] at HF
  have hn2 : kfd K + d - 1 ≤ 99999 := by rw [HF.out]; exact hn
  clear hK hn
  go_enter Tryz.func16, Tryz.ntmps16
  go_wp2_with (first
    | (go_at_call 38; refine (in_yes _ _ _ _ (by omega) (by omega)).mono ?_; rintro e w' ⟨rfl, hw⟩; subst w')
    | (go_at_call 50; refine (rdays_any y m _ (by omega) (by omega) hm hm').mono ?_; rintro e w' ⟨rfl, hw⟩; subst w'))
  go_loop [8, 9] (fun n i => ∃ k : Nat, k ≤ K ∧ i = .int .i64 k ∧ n = .int .i64 (kfd k + d - 1)) (fun _ i => K - (intOf i).toNat)
  case atStart => exact ⟨0, Nat.zero_le _, rfl, by simp [kfd]⟩
  case round =>
    obtain ⟨k, hk, rfl, rfl⟩ := hrel
    have hu := kfd_up k
    have hnn := kfd_nn k
    by_cases hlt : k < K
    · have hkb := klen_bd k
      have HS : Hid (kfd (k + 1) = kfd k + klen k) := rfl
      go_wp2_with fail
      refine (rdays_k k _ (by omega)).mono ?_
      rintro e w' ⟨rfl, hw⟩
      subst w'
      go_wp2
      go_round
      case rel => exact ⟨k + 1, by omega, by go_num, by rw [HS.out]; go_num⟩
      case measure => simp [intOf]; omega
    · obtain rfl : k = K := by omega
      go_wp2
      go_ret2
      exact ⟨tup2 HF.out, rfl⟩
set_option maxHeartbeats 2000000 in
theorem rday_over (y m d : Int) (w : World) (h0 : 1900 ≤ y) (h1 : y ≤ 2200) (hm : 1 ≤ m) (hm' : m ≤ 12) (hd : 1 ≤ d) (hd' : d ≤ mlen y m) (hn : 99999 < fst y m + d - 1) :
    Calls Tryz.prog 16 #[.int .i64 y, .int .i64 m, .int .i64 d] w fun e w' => e = .returned (.tuple #[.int .i64 0, .int .i64 1]) ∧ w' = w := by
  have hb := mlen_bd y m
  have HF : Hid (kfd (mk y m) + d - 1 = fst y m + d - 1) := by show _ = _; rw [fst_mk h0 hm hm']
  obtain ⟨K, hK⟩ : ∃ K : Nat, K = mk y m := ⟨_, rfl⟩
  have hKe : (y - 1900) * 12 + m - 1 = (K : Int) := by rw [hK]; unfold mk; omega
  rw [← hK] at HF
  have hn2 : 99999 < kfd K + d - 1 := by rw [HF.out]; exact hn
  clear hK hn
  go_enter Tryz.func16, Tryz.ntmps16
  go_wp2_with (first
    | (go_at_call 38; refine (in_yes _ _ _ _ (by omega) (by omega)).mono ?_; rintro e w' ⟨rfl, hw⟩; subst w')
    | (go_at_call 50; refine (rdays_any y m _ (by omega) (by omega) hm hm').mono ?_; rintro e w' ⟨rfl, hw⟩; subst w'))
  go_loop [8, 9] (fun n i => ∃ k : Nat, k ≤ K ∧ i = .int .i64 k ∧ n = .int .i64 (kfd k + d - 1)) (fun _ i => K - (intOf i).toNat)
  case atStart => exact ⟨0, Nat.zero_le _, rfl, by simp [kfd]⟩
  case round =>
    obtain ⟨k, hk, rfl, rfl⟩ := hrel
    have hu := kfd_up k
    have hnn := kfd_nn k
    by_cases hlt : k < K
    · have hkb := klen_bd k
      have HS : Hid (kfd (k + 1) = kfd k + klen k) := rfl
      go_wp2_with fail
      refine (rdays_k k _ (by omega)).mono ?_
      rintro e w' ⟨rfl, hw⟩
      subst w'
      go_wp2
      go_round
      case rel => exact ⟨k + 1, by omega, by go_num, by rw [HS.out]; go_num⟩
      case measure => simp [intOf]; omega
    · obtain rfl : k = K := by omega
      go_wp2
      go_ret2
      exact ⟨rfl, rfl⟩
set_option maxHeartbeats 1000000 in
theorem rday_day (y m d : Int) (w : World) (h0 : 1900 ≤ y) (h1 : y ≤ 2200) (hm : 1 ≤ m) (hm' : m ≤ 12) (hd : d < 1 ∨ mlen y m < d) :
    Calls Tryz.prog 16 #[.int .i64 y, .int .i64 m, .int .i64 d] w fun e w' => e = .returned (.tuple #[.int .i64 0, .int .i64 1]) ∧ w' = w := by
  have hb := mlen_bd y m
  go_enter Tryz.func16, Tryz.ntmps16
  go_wp2_with fail
  refine (in_yes y 1900 2200 _ h0 h1).mono ?_
  rintro e w' ⟨rfl, hw⟩
  subst w'
  go_wp2_with fail
  refine (in_yes m 1 12 _ hm hm').mono ?_
  rintro e w' ⟨rfl, hw⟩
  subst w'
  go_wp2_with fail
  refine (rdays_any y m _ (by omega) (by omega) hm hm').mono ?_
  rintro e w' ⟨rfl, hw⟩
  subst w'
  go_wp2_with fail
  refine (in_no d 1 (mlen y m) _ hd).mono ?_
  rintro e w' ⟨rfl, hw⟩
  subst w'
  go_wp2
  go_ret2
  exact ⟨rfl, rfl⟩
set_option maxHeartbeats 1000000 in
theorem rday_out (y m d : Int) (w : World) (h : y < 1900 ∨ 2200 < y ∨ m < 1 ∨ 12 < m) :
    Calls Tryz.prog 16 #[.int .i64 y, .int .i64 m, .int .i64 d] w fun e w' => e = .returned (.tuple #[.int .i64 0, .int .i64 1]) ∧ w' = w := by
  by_cases c : 1900 ≤ y ∧ y ≤ 2200
  · go_enter Tryz.func16, Tryz.ntmps16
    go_wp2_with fail
    refine (in_yes y 1900 2200 _ c.1 c.2).mono ?_
    rintro e w' ⟨rfl, hw⟩
    subst w'
    go_wp2_with fail
    refine (in_no m 1 12 _ (by omega)).mono ?_
    rintro e w' ⟨rfl, hw⟩
    subst w'
    go_wp2
    go_ret2
    exact ⟨rfl, rfl⟩
  · go_enter Tryz.func16, Tryz.ntmps16
    go_wp2_with fail
    refine (in_no y 1900 2200 _ (by omega)).mono ?_
    rintro e w' ⟨rfl, hw⟩
    subst w'
    go_wp2
    go_ret2
    exact ⟨rfl, rfl⟩
theorem rday_ok (y m d n : Int) (w : World) (h : ofDay y m d = some n) :
    Calls Tryz.prog 16 #[.int .i64 y, .int .i64 m, .int .i64 d] w fun e w' => e = .returned (.tuple #[.int .i64 n, .int .i64 0]) ∧ w' = w := by
  obtain ⟨a, b, c, e, f, g, i, j, k, l⟩ := ofDay_some h
  rw [i]
  exact rday_in y m d w a b c e f g (by omega)
theorem rday_bad (y m d : Int) (w : World) (h : ofDay y m d = none) :
    Calls Tryz.prog 16 #[.int .i64 y, .int .i64 m, .int .i64 d] w fun e w' => e = .returned (.tuple #[.int .i64 0, .int .i64 1]) ∧ w' = w := by
  by_cases c : 1900 ≤ y ∧ y ≤ 2200 ∧ 1 ≤ m ∧ m ≤ 12
  · obtain ⟨c1, c2, c3, c4⟩ := c
    by_cases e : 1 ≤ d ∧ d ≤ mlen y m
    · have : ¬ fst y m + d - 1 ≤ 99999 := by
        intro hn
        unfold ofDay at h
        rw [if_pos ⟨c1, c2, c3, c4, e.1, e.2, hn⟩] at h
        simp at h
      exact rday_over y m d w c1 c2 c3 c4 e.1 e.2 (by omega)
    · exact rday_day y m d w c1 c2 c3 c4 (by omega)
  · exact rday_out y m d w (by omega)
end Go.Proofs.YtapkandekfndoaaGreatDoor
