/- The walks of day.Parts and day.Month. -/
import Derived.Test.YtmldaiofghpfdaaGreatDoorDayLen
namespace Go.Proofs.YtmldaiofghpfdaaGreatDoor
open Go.RowKit
theorem firstYear_any (y : Int) (w : World) (hl : LenTab w) (h0 : 1900 ≤ y) (h1 : y ≤ 9000) :
    Calls Tryz.prog 100 #[.int .i64 y, .int .i64 1] w fun e w' => e = .returned (.int .i64 (yfd y)) ∧ w' = w := by
  have h := firstOf_any y 0 w hl h0 h1 (by omega)
  have e1 : ((0 : Nat) : Int) + 1 = 1 := by omega
  have e2 : yfd y + cumN y 0 = yfd y := by simp [cumN]
  rw [e1, e2] at h
  exact h
theorem tup4 {a b c a' b' c' : Int} {v : Value} (h1 : a = a') (h2 : b = b') (h3 : c = c') : Ending.returned (.tuple #[.int .i64 a, .int .i64 b, .int .i64 c, v]) = .returned (.tuple #[.int .i64 a', .int .i64 b', .int .i64 c', v]) := by rw [h1, h2, h3]
theorem parts_is {n y d : Int} {j : Nat} (hy : 1900 ≤ y) (hj : j < 12) (hd : d = n - yfd y - cumN y j + 1) (h1 : 1 ≤ d) (h2 : d ≤ mlen y (j + 1)) : y = ky (dK n) ∧ (j : Int) + 1 = km (dK n) ∧ d = dD n := by
  have hf : fst y (j + 1) = yfd y + cumN y j := by
    unfold fst; rw [show ((j : Int) + 1 - 1).toNat = j by omega]
  have hk := mk_ky (y := y) (m := j + 1) hy (by omega) (by omega)
  have hm := mk_km (y := y) (m := j + 1) hy (by omega) (by omega)
  have hfm := fst_mk (y := y) (m := j + 1) hy (by omega) (by omega)
  have hi : IsDay n (mk y (j + 1)) d := by
    refine ⟨h1, ?_, ?_⟩
    · unfold klen; rw [hk, hm]; exact h2
    · rw [← hfm, hf]; omega
  obtain ⟨e1, e2⟩ := of_isDay hi
  rw [e1, e2, hk, hm]
  exact ⟨rfl, rfl, rfl⟩
/-- Four results. -/
theorem four_results {fn : Func} {a b c d : Tmp} (h : fn.results = #[.tmp a, .tmp b, .tmp c, .tmp d]) (tmps : Array Value) (P : Program) (w : World) :
    (results fn tmps).run P w = .ok (.tuple #[tmps.getD a undef, tmps.getD b undef, tmps.getD c undef, tmps.getD d undef]) w := by
  simp [results, h]
set_option maxHeartbeats 2000000 in
theorem dparts_ok (n : Int) (w : World) (hl : LenTab w) (h0 : 0 ≤ n) (h1 : n ≤ 99999) :
    Calls Tryz.prog 77 #[.int .i64 n] w fun e w' => e = .returned (.tuple #[.int .i64 (ky (dK n)), .int .i64 (km (dK n)), .int .i64 (dD n), .nilIface]) ∧ w' = w := by
  have HL : Hid (LenTab w) := hl
  clear hl
  have hy0 := yfd_low (y := 1900 + n / 366) (by omega)
  go_enter Tryz.func77, Tryz.ntmps77
  go_wp2
  go_loop [2] (fun v => ∃ y : Int, v = .int .i64 y ∧ 1900 ≤ y ∧ y ≤ 2200 ∧ yfd y ≤ n) (fun v => (2201 - intOf v).toNat)
  case atStart => exact ⟨1900 + n / 366, by go_num, by omega, by omega, by omega⟩
  case round =>
    clear hy0
    obtain ⟨y, rfl, hy1, hy2, hyn⟩ := hrel
    have hb := yfd_bd (y + 1) (by omega) (by omega)
    have hb2 := yfd_low (y := y + 1) (by omega)
    go_wp2_with fail
    refine (firstYear_any (y + 1) _ HL.out (by omega) (by omega)).mono ?_
    rintro e w' ⟨rfl, hw⟩
    subst w'
    by_cases hc : yfd (y + 1) ≤ n
    · go_wp2
      go_round
      case rel => exact ⟨y + 1, by go_num, by omega, by omega, hc⟩
      case measure => simp [intOf]; omega
    · have hyb := yfd_bd y (by omega) (by omega)
      have hst := yfd_step y
      have HST : Hid (yfd (y + 1) = yfd y + cumN y 12) := hst
      have HC : Hid (¬ yfd (y + 1) ≤ n) := hc
      clear hst
      go_wp2_with fail
      refine (firstYear_any y _ HL.out (by omega) (by omega)).mono ?_
      rintro e w' ⟨rfl, hw⟩
      subst w'
      go_wp2_with fail
      clear hb hb2
      have HN : Hid (n < yfd y + cumN y 12) := by
        have := HST.out; have := HC.out
        show n < _; omega
      clear hc HST HC
      go_loop [3, 4] (fun m d => ∃ j : Nat, j < 12 ∧ m = .int .i64 (j + 1) ∧ d = .int .i64 (n - yfd y - cumN y j + 1) ∧ 0 ≤ n - yfd y - cumN y j) (fun m _ => 12 - (intOf m).toNat)
      case atStart => exact ⟨0, by omega, rfl, by simp [cumN], by simp [cumN]; omega⟩
      case round =>
        obtain ⟨j, hj, rfl, rfl, hd⟩ := hrel
        have hm := mlen_bd y (j + 1)
        have hcb := cumN_nn y j
        go_wp2_with fail
        refine (length_any y j _ HL.out (by omega) (by omega) hj).mono ?_
        rintro e w' ⟨rfl, hw⟩
        subst w'
        by_cases hc : mlen y (j + 1) < n - yfd y - cumN y j + 1
        · have hstep : Hid (cumN y (j + 1) = cumN y j + mlen y (j + 1)) := rfl
          have hj1 : j + 1 < 12 := by
            have h12 := HN.out; have h13 := hstep.out
            rcases Nat.lt_or_ge (j + 1) 12 with h | h
            · exact h
            · have e : j = 11 := by omega
              subst e
              have : cumN y 12 = cumN y (11 + 1) := rfl
              omega
          go_wp2_with fail
          refine (length_any y j _ HL.out (by omega) (by omega) hj).mono ?_
          rintro e w' ⟨rfl, hw⟩
          subst w'
          go_wp2
          go_round
          case rel => 
            have := hstep.out
            exact ⟨j + 1, hj1, by go_num, by go_num, by omega⟩
          case measure => simp [intOf]; omega
        · have HP : Hid (y = ky (dK n) ∧ (j : Int) + 1 = km (dK n) ∧ n - yfd y - cumN y j + 1 = dD n) := parts_is hy1 hj rfl (by omega) (by omega)
          go_wp2
          (try simp only [Exit.inBlock, Exit.then])
          refine bodyPost_ret (four_results rfl _ _ _) rfl ?_
          exact ⟨tup4 HP.out.1 HP.out.2.1 HP.out.2.2, rfl⟩
set_option maxHeartbeats 1000000 in
theorem dparts_bad (n : Int) (w : World) (h : n < 0 ∨ 99999 < n) :
    Calls Tryz.prog 77 #[.int .i64 n] w fun e w' => e = .returned (.tuple #[.int .i64 0, .int .i64 0, .int .i64 0, .iface 47 (.int .i64 1)]) ∧ w' = w := by
  by_cases c : n < 0
  · go_enter Tryz.func77, Tryz.ntmps77
    go_wp2
    (try simp only [Exit.inBlock, Exit.then])
    refine bodyPost_ret (four_results rfl _ _ _) rfl ?_
    exact ⟨rfl, rfl⟩
  · go_enter Tryz.func77, Tryz.ntmps77
    go_wp2
    (try simp only [Exit.inBlock, Exit.then])
    refine bodyPost_ret (four_results rfl _ _ _) rfl ?_
    exact ⟨rfl, rfl⟩
theorem tup2 {a a' : Int} {v : Value} (h1 : a = a') : Ending.returned (.tuple #[.int .i64 a, v]) = .returned (.tuple #[.int .i64 a', v]) := by rw [h1]
theorem month_is (k : Nat) : (ky k - 1900) * 12 + km k - 1 = (k : Int) := by unfold ky km; omega
set_option maxHeartbeats 1000000 in
theorem dmonth_ok (n : Int) (w : World) (hl : LenTab w) (h0 : 0 ≤ n) (h1 : n ≤ 99999) :
    Calls Tryz.prog 50 #[.int .i64 n] w fun e w' => e = .returned (.tuple #[.int .i64 (dK n : Int), .nilIface]) ∧ w' = w := by
  have hk := dK_le h0 h1
  have hy : 1900 ≤ ky (dK n) ∧ ky (dK n) ≤ 2200 := ⟨ky_ge _, by unfold ky; omega⟩
  have hm := km_bd (dK n)
  have HM : Hid ((ky (dK n) - 1900) * 12 + km (dK n) - 1 = (dK n : Int)) := month_is (dK n)
  clear hk
  go_enter Tryz.func50, Tryz.ntmps50
  go_wp2_with fail
  refine (dparts_ok n _ hl h0 h1).mono ?_
  rintro e w' ⟨rfl, hw⟩
  subst w'
  go_wp2
  go_ret2
  exact ⟨tup2 HM.out, rfl⟩
set_option maxHeartbeats 1000000 in
theorem dmonth_bad (n : Int) (w : World) (h : n < 0 ∨ 99999 < n) :
    Calls Tryz.prog 50 #[.int .i64 n] w fun e w' => e = .returned (.tuple #[.int .i64 0, .iface 47 (.int .i64 1)]) ∧ w' = w := by
  go_enter Tryz.func50, Tryz.ntmps50
  go_wp2_with fail
  refine (dparts_bad n _ h).mono ?_
  rintro e w' ⟨rfl, hw⟩
  subst w'
  go_wp2
  go_ret2
  exact ⟨rfl, rfl⟩
end Go.Proofs.YtmldaiofghpfdaaGreatDoor
