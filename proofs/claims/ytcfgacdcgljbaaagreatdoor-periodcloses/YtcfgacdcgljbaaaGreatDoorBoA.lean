/- The walk of tallymanref.days. The walks of day.Parts and day.Month. The walks of tallymanref.Parts and Month. -/
import Derived.Test.YtcfgacdcgljbaaaGreatDoorBnF
import Derived.Test.YtcfgacdcgljbaaaGreatDoorBnZ
namespace Go.Proofs.YtcfgacdcgljbaaaGreatDoor
open Go.RowKit
theorem ix1 (w : World) : (Instr.index 292 (.agg #[.int .i64 0, .int .i64 31, .int .i64 28, .int .i64 31, .int .i64 30, .int .i64 31, .int .i64 30, .int .i64 31, .int .i64 31, .int .i64 30, .int .i64 31, .int .i64 30, .int .i64 31]) (.int .i64 1)).run Tryz.prog w = .ok (.int .i64 31) w := by kernel_rfl
theorem ix2 (w : World) : (Instr.index 292 (.agg #[.int .i64 0, .int .i64 31, .int .i64 28, .int .i64 31, .int .i64 30, .int .i64 31, .int .i64 30, .int .i64 31, .int .i64 31, .int .i64 30, .int .i64 31, .int .i64 30, .int .i64 31]) (.int .i64 2)).run Tryz.prog w = .ok (.int .i64 28) w := by kernel_rfl
theorem ix3 (w : World) : (Instr.index 292 (.agg #[.int .i64 0, .int .i64 31, .int .i64 28, .int .i64 31, .int .i64 30, .int .i64 31, .int .i64 30, .int .i64 31, .int .i64 31, .int .i64 30, .int .i64 31, .int .i64 30, .int .i64 31]) (.int .i64 3)).run Tryz.prog w = .ok (.int .i64 31) w := by kernel_rfl
theorem ix4 (w : World) : (Instr.index 292 (.agg #[.int .i64 0, .int .i64 31, .int .i64 28, .int .i64 31, .int .i64 30, .int .i64 31, .int .i64 30, .int .i64 31, .int .i64 31, .int .i64 30, .int .i64 31, .int .i64 30, .int .i64 31]) (.int .i64 4)).run Tryz.prog w = .ok (.int .i64 30) w := by kernel_rfl
theorem ix5 (w : World) : (Instr.index 292 (.agg #[.int .i64 0, .int .i64 31, .int .i64 28, .int .i64 31, .int .i64 30, .int .i64 31, .int .i64 30, .int .i64 31, .int .i64 31, .int .i64 30, .int .i64 31, .int .i64 30, .int .i64 31]) (.int .i64 5)).run Tryz.prog w = .ok (.int .i64 31) w := by kernel_rfl
theorem ix6 (w : World) : (Instr.index 292 (.agg #[.int .i64 0, .int .i64 31, .int .i64 28, .int .i64 31, .int .i64 30, .int .i64 31, .int .i64 30, .int .i64 31, .int .i64 31, .int .i64 30, .int .i64 31, .int .i64 30, .int .i64 31]) (.int .i64 6)).run Tryz.prog w = .ok (.int .i64 30) w := by kernel_rfl
theorem ix7 (w : World) : (Instr.index 292 (.agg #[.int .i64 0, .int .i64 31, .int .i64 28, .int .i64 31, .int .i64 30, .int .i64 31, .int .i64 30, .int .i64 31, .int .i64 31, .int .i64 30, .int .i64 31, .int .i64 30, .int .i64 31]) (.int .i64 7)).run Tryz.prog w = .ok (.int .i64 31) w := by kernel_rfl
theorem ix8 (w : World) : (Instr.index 292 (.agg #[.int .i64 0, .int .i64 31, .int .i64 28, .int .i64 31, .int .i64 30, .int .i64 31, .int .i64 30, .int .i64 31, .int .i64 31, .int .i64 30, .int .i64 31, .int .i64 30, .int .i64 31]) (.int .i64 8)).run Tryz.prog w = .ok (.int .i64 31) w := by kernel_rfl
theorem ix9 (w : World) : (Instr.index 292 (.agg #[.int .i64 0, .int .i64 31, .int .i64 28, .int .i64 31, .int .i64 30, .int .i64 31, .int .i64 30, .int .i64 31, .int .i64 31, .int .i64 30, .int .i64 31, .int .i64 30, .int .i64 31]) (.int .i64 9)).run Tryz.prog w = .ok (.int .i64 30) w := by kernel_rfl
theorem ix10 (w : World) : (Instr.index 292 (.agg #[.int .i64 0, .int .i64 31, .int .i64 28, .int .i64 31, .int .i64 30, .int .i64 31, .int .i64 30, .int .i64 31, .int .i64 31, .int .i64 30, .int .i64 31, .int .i64 30, .int .i64 31]) (.int .i64 10)).run Tryz.prog w = .ok (.int .i64 31) w := by kernel_rfl
theorem ix11 (w : World) : (Instr.index 292 (.agg #[.int .i64 0, .int .i64 31, .int .i64 28, .int .i64 31, .int .i64 30, .int .i64 31, .int .i64 30, .int .i64 31, .int .i64 31, .int .i64 30, .int .i64 31, .int .i64 30, .int .i64 31]) (.int .i64 11)).run Tryz.prog w = .ok (.int .i64 30) w := by kernel_rfl
theorem ix12 (w : World) : (Instr.index 292 (.agg #[.int .i64 0, .int .i64 31, .int .i64 28, .int .i64 31, .int .i64 30, .int .i64 31, .int .i64 30, .int .i64 31, .int .i64 31, .int .i64 30, .int .i64 31, .int .i64 30, .int .i64 31]) (.int .i64 12)).run Tryz.prog w = .ok (.int .i64 31) w := by kernel_rfl
set_option maxRecDepth 20000 in
set_option maxHeartbeats 1000000 in
theorem rdays_feb (y : Int) (w : World) (h0 : 0 ≤ y) (h1 : y ≤ 10000) :
    Calls Tryz.prog 144 #[.int .i64 y, .int .i64 2] w fun e w' => e = .returned (.int .i64 (mlen y 2)) ∧ w' = w := by
  have hix := ix2 w
  have H2 : Hid (mlen y 2 = if isLeap y then 29 else 28) := mlen_two y
  by_cases c3 : y % 400 = 0
  · have hp : Hid (isLeap y = true) := by show isLeap y = true; simp [isLeap]; omega
    go_enter Tryz.func144, Tryz.ntmps144
    go_wp2
    go_ret
    exact ⟨dret_int (by rw [H2.out, hp.out]; rfl), rfl⟩
  · by_cases c1 : y % 4 = 0
    · by_cases c2 : y % 100 = 0
      · have hp : Hid (isLeap y = false) := by show isLeap y = false; simp [isLeap]; omega
        go_enter Tryz.func144, Tryz.ntmps144
        go_wp2
        go_ret
        exact ⟨dret_int (by rw [H2.out, hp.out]; rfl), rfl⟩
      · have hp : Hid (isLeap y = true) := by show isLeap y = true; simp [isLeap]; omega
        go_enter Tryz.func144, Tryz.ntmps144
        go_wp2
        · go_ret
          exact ⟨dret_int (by rw [H2.out, hp.out]; rfl), rfl⟩
        · rename_i hh
          exact absurd hh.2 (by simp [c2])
    · have hp : Hid (isLeap y = false) := by show isLeap y = false; simp [isLeap]; omega
      go_enter Tryz.func144, Tryz.ntmps144
      go_wp2
      go_ret
      exact ⟨dret_int (by rw [H2.out, hp.out]; rfl), rfl⟩
set_option maxRecDepth 20000 in
set_option maxHeartbeats 1000000 in
theorem rdays_any (y m : Int) (w : World) (h0 : 0 ≤ y) (h1 : y ≤ 10000) (hm : 1 ≤ m) (hm' : m ≤ 12) :
    Calls Tryz.prog 144 #[.int .i64 y, .int .i64 m] w fun e w' => e = .returned (.int .i64 (mlen y m)) ∧ w' = w := by
  have hc : m = 2 ∨ m = 1 ∨ m = 3 ∨ m = 4 ∨ m = 5 ∨ m = 6 ∨ m = 7 ∨ m = 8 ∨ m = 9 ∨ m = 10 ∨ m = 11 ∨ m = 12 := by omega
  rcases hc with rfl | rfl | rfl | rfl | rfl | rfl | rfl | rfl | rfl | rfl | rfl | rfl
  · exact rdays_feb y w h0 h1
  · have hix := ix1 w
    go_enter Tryz.func144, Tryz.ntmps144
    go_wp2
    go_ret
    exact ⟨rfl, rfl⟩
  · have hix := ix3 w
    go_enter Tryz.func144, Tryz.ntmps144
    go_wp2
    go_ret
    exact ⟨rfl, rfl⟩
  · have hix := ix4 w
    go_enter Tryz.func144, Tryz.ntmps144
    go_wp2
    go_ret
    exact ⟨rfl, rfl⟩
  · have hix := ix5 w
    go_enter Tryz.func144, Tryz.ntmps144
    go_wp2
    go_ret
    exact ⟨rfl, rfl⟩
  · have hix := ix6 w
    go_enter Tryz.func144, Tryz.ntmps144
    go_wp2
    go_ret
    exact ⟨rfl, rfl⟩
  · have hix := ix7 w
    go_enter Tryz.func144, Tryz.ntmps144
    go_wp2
    go_ret
    exact ⟨rfl, rfl⟩
  · have hix := ix8 w
    go_enter Tryz.func144, Tryz.ntmps144
    go_wp2
    go_ret
    exact ⟨rfl, rfl⟩
  · have hix := ix9 w
    go_enter Tryz.func144, Tryz.ntmps144
    go_wp2
    go_ret
    exact ⟨rfl, rfl⟩
  · have hix := ix10 w
    go_enter Tryz.func144, Tryz.ntmps144
    go_wp2
    go_ret
    exact ⟨rfl, rfl⟩
  · have hix := ix11 w
    go_enter Tryz.func144, Tryz.ntmps144
    go_wp2
    go_ret
    exact ⟨rfl, rfl⟩
  · have hix := ix12 w
    go_enter Tryz.func144, Tryz.ntmps144
    go_wp2
    go_ret
    exact ⟨rfl, rfl⟩
theorem last_natR (k : Nat) : (1900 + ((k : Int) / 12) = ky k) ∧ ((k : Int) % 12 + 1 = ((k % 12 : Nat) : Int) + 1) := by unfold ky; omega
theorem rdays_k (k : Nat) (w : World) (h : k ≤ 3620) :
    Calls Tryz.prog 144 #[.int .i64 (1900 + (k : Int) / 12), .int .i64 ((k : Int) % 12 + 1)] w fun e w' => e = .returned (.int .i64 (klen k)) ∧ w' = w := by
  have e := last_natR k
  rw [e.1, e.2]
  exact rdays_any (ky k) (((k % 12 : Nat) : Int) + 1) w (by have := ky_ge k; omega) (by unfold ky; omega) (by omega) (by omega)
end Go.Proofs.YtcfgacdcgljbaaaGreatDoor
namespace Go.Proofs.YtcfgacdcgljbaaaGreatDoor
open Go.RowKit
theorem firstYear_any (y : Int) (w : World) (hl : LenTab w) (h0 : 1900 ≤ y) (h1 : y ≤ 9000) :
    Calls Tryz.prog 152 #[.int .i64 y, .int .i64 1] w fun e w' => e = .returned (.int .i64 (yfd y)) ∧ w' = w := by
  have h := firstOf_any y 0 w hl h0 h1 (by omega)
  have e1 : ((0 : Nat) : Int) + 1 = 1 := by omega
  have e2 : yfd y + cumN y 0 = yfd y := by simp [cumN]
  rw [e1, e2] at h
  exact h
theorem tup4 {a b c a' b' c' : Int} {v : Value} (h1 : a = a') (h2 : b = b') (h3 : c = c') : Ending.returned (.tuple #[.int .i64 a, .int .i64 b, .int .i64 c, v]) = .returned (.tuple #[.int .i64 a', .int .i64 b', .int .i64 c', v]) := by rw [h1, h2, h3]
theorem parts_is {n y d : Int} {j : Nat} (hy : 1900 ≤ y) (hj : j < 12) (hd : d = n - yfd y - cumN y j + 1) (h1 : 1 ≤ d) (h2 : d ≤ mlen y (j + 1)) : y = ky (dK n) ∧ (j : Int) + 1 = km (dK n) ∧ d = dD n := by
  have hf : fst y (j + 1) = yfd y + cumN y j := by
    unfold fst; rw [show ((j : Int) + 1 - 1).toNat = j by omega]
  have hk := mk_ky (y := y) (m := j + 1) hy (by omega) (by omega)
  have hm := mk_km (y := y) (m := j + 1) hy (by omega) (by omega)
  have hfm := fst_mk (y := y) (m := j + 1) hy (by omega) (by omega)
  have hi : IsDay n (mk y (j + 1)) d := by
    refine ⟨h1, ?_, ?_⟩
    · unfold klen; rw [hk, hm]; exact h2
    · rw [← hfm, hf]; omega
  obtain ⟨e1, e2⟩ := of_isDay hi
  rw [e1, e2, hk, hm]
  exact ⟨rfl, rfl, rfl⟩
/-- Four results. -/
theorem four_results {fn : Func} {a b c d : Tmp} (h : fn.results = #[.tmp a, .tmp b, .tmp c, .tmp d]) (tmps : Array Value) (P : Program) (w : World) :
    (results fn tmps).run P w = .ok (.tuple #[tmps.getD a undef, tmps.getD b undef, tmps.getD c undef, tmps.getD d undef]) w := by
  simp [results, h]
set_option maxHeartbeats 2000000 in
theorem dparts_ok (n : Int) (w : World) (hl : LenTab w) (h0 : 0 ≤ n) (h1 : n ≤ 99999) :
    Calls Tryz.prog 107 #[.int .i64 n] w fun e w' => e = .returned (.tuple #[.int .i64 (ky (dK n)), .int .i64 (km (dK n)), .int .i64 (dD n), .nilIface]) ∧ w' = w := by
  have HL : Hid (LenTab w) := hl
  clear hl
  have hy0 := yfd_low (y := 1900 + n / 366) (by omega)
  go_enter Tryz.func107, Tryz.ntmps107
  go_wp2
  go_loop [2] (fun v => ∃ y : Int, v = .int .i64 y ∧ 1900 ≤ y ∧ y ≤ 2200 ∧ yfd y ≤ n) (fun v => (2201 - intOf v).toNat)
  case atStart => exact ⟨1900 + n / 366, by go_num, by omega, by omega, by omega⟩
  case round =>
    clear hy0
    obtain ⟨y, rfl, hy1, hy2, hyn⟩ := hrel
    have hb := yfd_bd (y + 1) (by omega) (by omega)
    have hb2 := yfd_low (y := y + 1) (by omega)
    go_wp2_with fail
    refine (firstYear_any (y + 1) _ HL.out (by omega) (by omega)).mono ?_
    rintro e w' ⟨rfl, hw⟩
    subst w'
    by_cases hc : yfd (y + 1) ≤ n
    · go_wp2
      go_round
      case rel => exact ⟨y + 1, by go_num, by omega, by omega, hc⟩
      case measure => simp [intOf]; omega
    · have hyb := yfd_bd y (by omega) (by omega)
      have hst := yfd_step y
      have HST : Hid (yfd (y + 1) = yfd y + cumN y 12) := hst
      have HC : Hid (¬ yfd (y + 1) ≤ n) := hc
      clear hst
      go_wp2_with fail
      refine (firstYear_any y _ HL.out (by omega) (by omega)).mono ?_
      rintro e w' ⟨rfl, hw⟩
      subst w'
      go_wp2_with fail
      clear hb hb2
      have HN : Hid (n < yfd y + cumN y 12) := by
        have := HST.out; have := HC.out
        show n < _; omega
      clear hc HST HC
      go_loop [3, 4] (fun m d => ∃ j : Nat, j < 12 ∧ m = .int .i64 (j + 1) ∧ d = .int .i64 (n - yfd y - cumN y j + 1) ∧ 0 ≤ n - yfd y - cumN y j) (fun m _ => 12 - (intOf m).toNat)
      case atStart => exact ⟨0, by omega, rfl, by simp [cumN], by simp [cumN]; omega⟩
      case round =>
        obtain ⟨j, hj, rfl, rfl, hd⟩ := hrel
        have hm := mlen_bd y (j + 1)
        have hcb := cumN_nn y j
        go_wp2_with fail
        refine (length_any y j _ HL.out (by omega) (by omega) hj).mono ?_
        rintro e w' ⟨rfl, hw⟩
        subst w'
        by_cases hc : mlen y (j + 1) < n - yfd y - cumN y j + 1
        · have hstep : Hid (cumN y (j + 1) = cumN y j + mlen y (j + 1)) := rfl
          have hj1 : j + 1 < 12 := by
            have h12 := HN.out; have h13 := hstep.out
            rcases Nat.lt_or_ge (j + 1) 12 with h | h
            · exact h
            · have e : j = 11 := by omega
              subst e
              have : cumN y 12 = cumN y (11 + 1) := rfl
              omega
          go_wp2_with fail
          refine (length_any y j _ HL.out (by omega) (by omega) hj).mono ?_
          rintro e w' ⟨rfl, hw⟩
          subst w'
          go_wp2
          go_round
          case rel => 
            have := hstep.out
            exact ⟨j + 1, hj1, by go_num, by go_num, by omega⟩
          case measure => simp [intOf]; omega
        · have HP : Hid (y = ky (dK n) ∧ (j : Int) + 1 = km (dK n) ∧ n - yfd y - cumN y j + 1 = dD n) := parts_is hy1 hj rfl (by omega) (by omega)
          go_wp2
          (try simp only [Exit.inBlock, Exit.then])
          refine bodyPost_ret (four_results rfl _ _ _) rfl ?_
          exact ⟨tup4 HP.out.1 HP.out.2.1 HP.out.2.2, rfl⟩
set_option maxHeartbeats 1000000 in
theorem dparts_bad (n : Int) (w : World) (h : n < 0 ∨ 99999 < n) :
    Calls Tryz.prog 107 #[.int .i64 n] w fun e w' => e = .returned (.tuple #[.int .i64 0, .int .i64 0, .int .i64 0, .iface 47 (.int .i64 1)]) ∧ w' = w := by
  by_cases c : n < 0
  · go_enter Tryz.func107, Tryz.ntmps107
    go_wp2
    (try simp only [Exit.inBlock, Exit.then])
    refine bodyPost_ret (four_results rfl _ _ _) rfl ?_
    exact ⟨rfl, rfl⟩
  · go_enter Tryz.func107, Tryz.ntmps107
    go_wp2
    (try simp only [Exit.inBlock, Exit.then])
    refine bodyPost_ret (four_results rfl _ _ _) rfl ?_
    exact ⟨rfl, rfl⟩
theorem tup2 {a a' : Int} {v : Value} (h1 : a = a') : Ending.returned (.tuple #[.int .i64 a, v]) = .returned (.tuple #[.int .i64 a', v]) := by rw [h1]
theorem month_is (k : Nat) : (ky k - 1900) * 12 + km k - 1 = (k : Int) := by unfold ky km; omega
set_option maxHeartbeats 1000000 in
theorem dmonth_ok (n : Int) (w : World) (hl : LenTab w) (h0 : 0 ≤ n) (h1 : n ≤ 99999) :
    Calls Tryz.prog 58 #[.int .i64 n] w fun e w' => e = .returned (.tuple #[.int .i64 (dK n : Int), .nilIface]) ∧ w' = w := by
  have hk := dK_le h0 h1
  have hy : 1900 ≤ ky (dK n) ∧ ky (dK n) ≤ 2200 := ⟨ky_ge _, by unfold ky; omega⟩
  have hm := km_bd (dK n)
  have HM : Hid ((ky (dK n) - 1900) * 12 + km (dK n) - 1 = (dK n : Int)) := month_is (dK n)
  clear hk
  go_enter Tryz.func58, Tryz.ntmps58
  go_wp2_with fail
  refine (dparts_ok n _ hl h0 h1).mono ?_
  rintro e w' ⟨rfl, hw⟩
  subst w'
  go_wp2
  go_ret2
  exact ⟨tup2 HM.out, rfl⟩
set_option maxHeartbeats 1000000 in
theorem dmonth_bad (n : Int) (w : World) (h : n < 0 ∨ 99999 < n) :
    Calls Tryz.prog 58 #[.int .i64 n] w fun e w' => e = .returned (.tuple #[.int .i64 0, .iface 47 (.int .i64 1)]) ∧ w' = w := by
  go_enter Tryz.func58, Tryz.ntmps58
  go_wp2_with fail
  refine (dparts_bad n _ h).mono ?_
  rintro e w' ⟨rfl, hw⟩
  subst w'
  go_wp2
  go_ret2
  exact ⟨rfl, rfl⟩
end Go.Proofs.YtcfgacdcgljbaaaGreatDoor
namespace Go.Proofs.YtcfgacdcgljbaaaGreatDoor
open Go.RowKit
theorem rparts_is {n : Int} {k : Nat} (h0 : 0 ≤ n - kfd k) (h1 : n - kfd k < klen k) : 1900 + (k : Int) / 12 = ky (dK n) ∧ (k : Int) % 12 + 1 = km (dK n) ∧ n - kfd k + 1 = dD n := by
  have hi : IsDay n k (n - kfd k + 1) := ⟨by omega, by omega, by omega⟩
  obtain ⟨e1, e2⟩ := of_isDay hi
  rw [e1, e2]
  refine ⟨(last_natR k).1, ?_, rfl⟩
  rw [(last_natR k).2]; rfl
set_option maxHeartbeats 2000000 in
theorem rparts_ok (n : Int) (w : World) (h0 : 0 ≤ n) (h1 : n ≤ 99999) :
    Calls Tryz.prog 102 #[.int .i64 n] w fun e w' => e = .returned (.tuple #[.int .i64 (ky (dK n)), .int .i64 (km (dK n)), .int .i64 (dD n), .int .i64 0]) ∧ w' = w := by
  go_enter Tryz.func102, Tryz.ntmps102
  go_wp2_with (go_at_call 45; refine (in_yes _ _ _ _ (by omega) (by omega)).mono ?_; rintro e w' ⟨rfl, hw⟩; subst w')
  go_loop [0, 6] (fun v i => ∃ k : Nat, i = .int .i64 k ∧ v = .int .i64 (n - kfd k) ∧ 0 ≤ n - kfd k) (fun v _ => (intOf v).toNat)
  case atStart => exact ⟨0, rfl, by simp [kfd], by simp [kfd]; omega⟩
  case round =>
    obtain ⟨k, rfl, rfl, hn⟩ := hrel
    have hlow := kfd_low k
    have hnn := kfd_nn k
    have hkb := klen_bd k
    have hk : k ≤ 3600 := by omega
    go_wp2_with fail
    refine (rdays_k k _ (by omega)).mono ?_
    rintro e w' ⟨rfl, hw⟩
    subst w'
    by_cases hc : klen k ≤ n - kfd k
    · have HS : Hid (kfd (k + 1) = kfd k + klen k) := rfl
      go_wp2_with fail
      refine (rdays_k k _ (by omega)).mono ?_
      rintro e w' ⟨rfl, hw⟩
      subst w'
      go_wp2
      go_round
      case rel =>
        have := HS.out
        exact ⟨k + 1, by go_num, by go_num, by omega⟩
      case measure => simp [intOf]; omega
    · have HP : Hid (1900 + (k : Int) / 12 = ky (dK n) ∧ (k : Int) % 12 + 1 = km (dK n) ∧ n - kfd k + 1 = dD n) := rparts_is hn (by omega)
      go_wp2
      (try simp only [Exit.inBlock, Exit.then])
      refine bodyPost_ret (four_results rfl _ _ _) rfl ?_
      exact ⟨tup4 HP.out.1 HP.out.2.1 HP.out.2.2, rfl⟩
set_option maxHeartbeats 1000000 in
theorem rparts_bad (n : Int) (w : World) (h : n < 0 ∨ 99999 < n) :
    Calls Tryz.prog 102 #[.int .i64 n] w fun e w' => e = .returned (.tuple #[.int .i64 0, .int .i64 0, .int .i64 0, .int .i64 1]) ∧ w' = w := by
  go_enter Tryz.func102, Tryz.ntmps102
  go_wp2_with (go_at_call 45; refine (in_no _ _ _ _ (by omega)).mono ?_; rintro e w' ⟨rfl, hw⟩; subst w')
  (try simp only [Exit.inBlock, Exit.then])
  refine bodyPost_ret (four_results rfl _ _ _) rfl ?_
  exact ⟨rfl, rfl⟩
theorem rmonth_is (k : Nat) : 12 * ky k + km k - 22800 - 1 = (k : Int) := by unfold ky km; omega
set_option maxHeartbeats 1000000 in
theorem rmonth_ok (n : Int) (w : World) (h0 : 0 ≤ n) (h1 : n ≤ 99999) :
    Calls Tryz.prog 55 #[.int .i64 n] w fun e w' => e = .returned (.tuple #[.int .i64 (dK n : Int), .int .i64 0]) ∧ w' = w := by
  have hk := dK_le h0 h1
  have hy : 1900 ≤ ky (dK n) ∧ ky (dK n) ≤ 2200 := ⟨ky_ge _, by unfold ky; omega⟩
  have hm := km_bd (dK n)
  have HM : Hid (12 * ky (dK n) + km (dK n) - 22800 - 1 = (dK n : Int)) := rmonth_is (dK n)
  clear hk
  go_enter Tryz.func55, Tryz.ntmps55
  go_wp2_with fail
  refine (rparts_ok n _ h0 h1).mono ?_
  rintro e w' ⟨rfl, hw⟩
  subst w'
  go_wp2
  go_ret2
  exact ⟨tup2 HM.out, rfl⟩
set_option maxHeartbeats 1000000 in
theorem rmonth_bad (n : Int) (w : World) (h : n < 0 ∨ 99999 < n) :
    Calls Tryz.prog 55 #[.int .i64 n] w fun e w' => e = .returned (.tuple #[.int .i64 0, .int .i64 1]) ∧ w' = w := by
  go_enter Tryz.func55, Tryz.ntmps55
  go_wp2_with fail
  refine (rparts_bad n _ h).mono ?_
  rintro e w' ⟨rfl, hw⟩
  subst w'
  go_wp2
  go_ret2
  exact ⟨rfl, rfl⟩
end Go.Proofs.YtcfgacdcgljbaaaGreatDoor
