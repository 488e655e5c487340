/- The walks of day.leap, day.length, day.leaps and day.firstOf. The walks of day.Parts and day.Month. -/
import Derived.Test.YtppamojkhkdfpaaGreatDoorRows
import Derived.Test.YtppamojkhkdfpaaGreatDoorBnM
import Derived.WalkKit
import Derived.ProofKit
import Derived.OpenShut
import Derived.WalkSpells
import Derived.Deep.QuietTactic
import Derived.BigQuiet
namespace Go.Proofs.YtppamojkhkdfpaaGreatDoor
open Go.RowKit
theorem dret_int {k : IntKind} {a b : Int} (h : a = b) : Ending.returned (.int k a) = .returned (.int k b) := by rw [h]
theorem dret_bool {a b : Bool} (h : a = b) : Ending.returned (.bool a) = .returned (.bool b) := by rw [h]
/-- How long the k-th month is (from 0), in a year with a short February: the table day.lengths. -/
def ltab (k : Nat) : Int := if k = 1 then 28 else if k = 3 ∨ k = 5 ∨ k = 8 ∨ k = 10 then 30 else 31
/-- The table lies where it was laid. -/
def LenTab (w : World) : Prop := ∀ k : Nat, k < 12 → w.cell? ⟨2, k, none⟩ = some (.int .i64 (ltab k))
theorem LenTab.below {w w' : World} (h : LenTab w) (hb : Below w.heap.size w w') : LenTab w' := by
  intro k hk
  rw [hb.cell (p := ⟨2, k, none⟩) (World.block_lt_of_cell? _ _ (h k hk))]
  exact h k hk
def isLeap (y : Int) : Bool := decide (y % 4 = 0 ∧ (y % 100 ≠ 0 ∨ y % 400 = 0))
theorem mlen_two (y : Int) : mlen y 2 = if isLeap y then 29 else 28 := by
  unfold mlen lpy isLeap
  by_cases h : y % 4 = 0 ∧ (y % 100 ≠ 0 ∨ y % 400 = 0)
  · simp [h]
  · simp [h]
theorem mlen_tab (y : Int) (k : Nat) (h : k < 12) (h2 : k ≠ 1) : mlen y (k + 1) = ltab k := by
  unfold mlen ltab
  rw [if_neg (by omega), if_neg h2]
  by_cases c : k = 3 ∨ k = 5 ∨ k = 8 ∨ k = 10
  · rw [if_pos c, if_pos (by omega)]
  · rw [if_neg c, if_neg (by omega)]
set_option maxHeartbeats 1000000 in
theorem leap_any (y : Int) (w : World) (h0 : 0 ≤ y) (h1 : y ≤ 10000) :
    Calls Tryz.prog 195 #[.int .i64 y] w fun e w' => e = .returned (.bool (isLeap y)) ∧ w' = w := by
  by_cases c1 : y % 4 = 0
  · by_cases c2 : y % 100 = 0
    · by_cases c3 : y % 400 = 0
      · go_enter Tryz.func195, Tryz.ntmps195
        go_wp2
        go_ret
        exact ⟨dret_bool (by simp [isLeap, c1, c2, c3]), rfl⟩
      · go_enter Tryz.func195, Tryz.ntmps195
        go_wp2
        go_ret
        exact ⟨dret_bool (by simp [isLeap, c1, c2, c3]), rfl⟩
    · go_enter Tryz.func195, Tryz.ntmps195
      go_wp2
      go_ret
      exact ⟨dret_bool (by simp [isLeap, c1, c2]), rfl⟩
  · go_enter Tryz.func195, Tryz.ntmps195
    go_wp2
    go_ret
    exact ⟨dret_bool (by simp [isLeap, c1]), rfl⟩
set_option maxHeartbeats 1000000 in
theorem leaps_any (y : Int) (w : World) (h0 : 0 ≤ y) (h1 : y ≤ 10000) :
    Calls Tryz.prog 194 #[.int .i64 y] w fun e w' => e = .returned (.int .i64 (lps y)) ∧ w' = w := by
  have HS : Hid (y / 4 - y / 100 + y / 400 = lps y) := rfl
  go_enter Tryz.func194, Tryz.ntmps194
  go_wp2
  go_ret
  exact ⟨dret_int HS.out, rfl⟩
set_option maxHeartbeats 1000000 in
theorem length_any (y : Int) (k : Nat) (w : World) (hl : LenTab w) (h0 : 0 ≤ y) (h1 : y ≤ 10000) (hk : k < 12) :
    Calls Tryz.prog 140 #[.int .i64 y, .int .i64 (k + 1)] w fun e w' => e = .returned (.int .i64 (mlen y (k + 1))) ∧ w' = w := by
  have hc := hl k hk
  have HT : Hid (k ≠ 1 → mlen y (k + 1) = ltab k) := mlen_tab y k hk
  have H2 : Hid (mlen y 2 = if isLeap y then 29 else 28) := mlen_two y
  clear hl
  by_cases c : k = 1
  · subst c
    rw [show ltab 1 = 28 from rfl] at hc
    rcases hp : isLeap y
    · have hl := leap_any y
      rw [hp] at hl H2
      go_enter Tryz.func140, Tryz.ntmps140
      go_wp2_with (go_at_call 195; refine (hl _ h0 h1).mono ?_; rintro e w' ⟨rfl, hw⟩; subst w')
      go_ret
      exact ⟨dret_int H2.out.symm, rfl⟩
    · have hl := leap_any y
      rw [hp] at hl H2
      go_enter Tryz.func140, Tryz.ntmps140
      go_wp2_with (go_at_call 195; refine (hl _ h0 h1).mono ?_; rintro e w' ⟨rfl, hw⟩; subst w')
      go_ret
      exact ⟨dret_int H2.out.symm, rfl⟩
  · go_enter Tryz.func140, Tryz.ntmps140
    go_wp2
    go_ret
    exact ⟨dret_int (HT.out c).symm, rfl⟩
theorem lps_bd (y : Int) (h0 : 0 ≤ y) (h1 : y ≤ 10000) : 0 ≤ lps y ∧ lps y ≤ 2500 := by unfold lps; omega
theorem lps_1899 : lps 1899 = 460 := by decide
theorem cumN_step (y : Int) (k : Nat) : cumN y (k + 1) = cumN y k + mlen y (k + 1) := rfl
theorem yfd_bd (y : Int) (h0 : 1900 ≤ y) (h1 : y ≤ 9000) : 0 ≤ yfd y ∧ yfd y ≤ 3000000 := by
  have := yfd_low h0; omega
set_option maxHeartbeats 1000000 in
theorem firstOf_any (y : Int) (k : Nat) (w : World) (hl : LenTab w) (h0 : 1900 ≤ y) (h1 : y ≤ 9000) (hk : k < 12) :
    Calls Tryz.prog 139 #[.int .i64 y, .int .i64 (k + 1)] w fun e w' => e = .returned (.int .i64 (yfd y + cumN y k)) ∧ w' = w := by
  have HL : Hid (LenTab w) := hl
  have hb := lps_bd (y - 1) (by omega) (by omega)
  have HY : Hid ((y - 1900) * 365 + lps (y - 1) - 460 = yfd y) := rfl
  have hl2 := leaps_any 1899
  rw [lps_1899] at hl2
  have hyb := yfd_bd y h0 h1
  clear hl
  go_enter Tryz.func139, Tryz.ntmps139
  go_wp2_with fail
  refine (leaps_any (y - 1) _ (by omega) (by omega)).mono ?_
  rintro e w' ⟨rfl, hw⟩
  subst w'
  go_wp2_with fail
  refine (hl2 _ (by omega) (by omega)).mono ?_
  rintro e w' ⟨rfl, hw⟩
  subst w'
  clear hl2
  go_wp2
  rw [HY.out]
  clear HY hb
  go_loop [5, 6] (fun n i => ∃ j : Nat, j ≤ k ∧ i = .int .i64 (j + 1) ∧ n = .int .i64 (yfd y + cumN y j)) (fun _ i => k + 1 - (intOf i).toNat)
  case atStart => exact ⟨0, Nat.zero_le _, rfl, by simp [cumN]⟩
  case round =>
    obtain ⟨j, hj, rfl, rfl⟩ := hrel
    have hcb := cumN_nn y j
    by_cases hlt : j < k
    · have hm := mlen_bd y (j + 1)
      have HS : Hid (cumN y (j + 1) = cumN y j + mlen y (j + 1)) := rfl
      go_wp2_with fail
      refine (length_any y j _ HL.out (by omega) (by omega) (by omega)).mono ?_
      rintro e w' ⟨rfl, hw⟩
      subst w'
      go_wp2
      go_round
      case rel => exact ⟨j + 1, by omega, by go_num, by rw [HS.out]; go_num⟩
      case measure => simp [intOf]; omega
    · obtain rfl : j = k := by omega
      go_wp2
      go_ret
      exact ⟨rfl, rfl⟩
end Go.Proofs.YtppamojkhkdfpaaGreatDoor
namespace Go.Proofs.YtppamojkhkdfpaaGreatDoor
open Go.RowKit
theorem firstYear_any (y : Int) (w : World) (hl : LenTab w) (h0 : 1900 ≤ y) (h1 : y ≤ 9000) :
    Calls Tryz.prog 139 #[.int .i64 y, .int .i64 1] w fun e w' => e = .returned (.int .i64 (yfd y)) ∧ w' = w := by
  have h := firstOf_any y 0 w hl h0 h1 (by omega)
  have e1 : ((0 : Nat) : Int) + 1 = 1 := by omega
  have e2 : yfd y + cumN y 0 = yfd y := by simp [cumN]
  rw [e1, e2] at h
  exact h
theorem tup4 {a b c a' b' c' : Int} {v : Value} (h1 : a = a') (h2 : b = b') (h3 : c = c') : Ending.returned (.tuple #[.int .i64 a, .int .i64 b, .int .i64 c, v]) = .returned (.tuple #[.int .i64 a', .int .i64 b', .int .i64 c', v]) := by rw [h1, h2, h3]
theorem parts_is {n y d : Int} {j : Nat} (hy : 1900 ≤ y) (hj : j < 12) (hd : d = n - yfd y - cumN y j + 1) (h1 : 1 ≤ d) (h2 : d ≤ mlen y (j + 1)) : y = ky (dK n) ∧ (j : Int) + 1 = km (dK n) ∧ d = dD n := by
  have hf : fst y (j + 1) = yfd y + cumN y j := by
    unfold fst; rw [show ((j : Int) + 1 - 1).toNat = j by omega]
  have hk := mk_ky (y := y) (m := j + 1) hy (by omega) (by omega)
  have hm := mk_km (y := y) (m := j + 1) hy (by omega) (by omega)
  have hfm := fst_mk (y := y) (m := j + 1) hy (by omega) (by omega)
  have hi : IsDay n (mk y (j + 1)) d := by
    refine ⟨h1, ?_, ?_⟩
    · unfold klen; rw [hk, hm]; exact h2
    · rw [← hfm, hf]; omega
  obtain ⟨e1, e2⟩ := of_isDay hi
  rw [e1, e2, hk, hm]
  exact ⟨rfl, rfl, rfl⟩
/-- Four results. -/
theorem four_results {fn : Func} {a b c d : Tmp} (h : fn.results = #[.tmp a, .tmp b, .tmp c, .tmp d]) (tmps : Array Value) (P : Program) (w : World) :
    (results fn tmps).run P w = .ok (.tuple #[tmps.getD a undef, tmps.getD b undef, tmps.getD c undef, tmps.getD d undef]) w := by
  simp [results, h]
set_option maxHeartbeats 2000000 in
theorem dparts_ok (n : Int) (w : World) (hl : LenTab w) (h0 : 0 ≤ n) (h1 : n ≤ 99999) :
    Calls Tryz.prog 98 #[.int .i64 n] w fun e w' => e = .returned (.tuple #[.int .i64 (ky (dK n)), .int .i64 (km (dK n)), .int .i64 (dD n), .nilIface]) ∧ w' = w := by
  have HL : Hid (LenTab w) := hl
  clear hl
  have hy0 := yfd_low (y := 1900 + n / 366) (by omega)
  go_enter Tryz.func98, Tryz.ntmps98
  go_wp2
  go_loop [2] (fun v => ∃ y : Int, v = .int .i64 y ∧ 1900 ≤ y ∧ y ≤ 2200 ∧ yfd y ≤ n) (fun v => (2201 - intOf v).toNat)
  case atStart => exact ⟨1900 + n / 366, by go_num, by omega, by omega, by omega⟩
  case round =>
    clear hy0
    obtain ⟨y, rfl, hy1, hy2, hyn⟩ := hrel
    have hb := yfd_bd (y + 1) (by omega) (by omega)
    have hb2 := yfd_low (y := y + 1) (by omega)
    go_wp2_with fail
    refine (firstYear_any (y + 1) _ HL.out (by omega) (by omega)).mono ?_
    rintro e w' ⟨rfl, hw⟩
    subst w'
    by_cases hc : yfd (y + 1) ≤ n
    · go_wp2
      go_round
      case rel => exact ⟨y + 1, by go_num, by omega, by omega, hc⟩
      case measure => simp [intOf]; omega
    · have hyb := yfd_bd y (by omega) (by omega)
      have hst := yfd_step y
      have HST : Hid (yfd (y + 1) = yfd y + cumN y 12) := hst
      have HC : Hid (¬ yfd (y + 1) ≤ n) := hc
      clear hst
      go_wp2_with fail
      refine (firstYear_any y _ HL.out (by omega) (by omega)).mono ?_
      rintro e w' ⟨rfl, hw⟩
      subst w'
      go_wp2_with fail
      clear hb hb2
      have HN : Hid (n < yfd y + cumN y 12) := by
        have := HST.out; have := HC.out
        show n < _; omega
      clear hc HST HC
      go_loop [3, 4] (fun m d => ∃ j : Nat, j < 12 ∧ m = .int .i64 (j + 1) ∧ d = .int .i64 (n - yfd y - cumN y j + 1) ∧ 0 ≤ n - yfd y - cumN y j) (fun m _ => 12 - (intOf m).toNat)
      case atStart => exact ⟨0, by omega, rfl, by simp [cumN], by simp [cumN]; omega⟩
      case round =>
        obtain ⟨j, hj, rfl, rfl, hd⟩ := hrel
        have hm := mlen_bd y (j + 1)
        have hcb := cumN_nn y j
        go_wp2_with fail
        refine (length_any y j _ HL.out (by omega) (by omega) hj).mono ?_
        rintro e w' ⟨rfl, hw⟩
        subst w'
        by_cases hc : mlen y (j + 1) < n - yfd y - cumN y j + 1
        · have hstep : Hid (cumN y (j + 1) = cumN y j + mlen y (j + 1)) := rfl
          have hj1 : j + 1 < 12 := by
            have h12 := HN.out; have h13 := hstep.out
            rcases Nat.lt_or_ge (j + 1) 12 with h | h
            · exact h
            · have e : j = 11 := by omega
              subst e
              have : cumN y 12 = cumN y (11 + 1) := rfl
              omega
          go_wp2_with fail
          refine (length_any y j _ HL.out (by omega) (by omega) hj).mono ?_
          rintro e w' ⟨rfl, hw⟩
          subst w'
          go_wp2
          go_round
          case rel => 
            have := hstep.out
            exact ⟨j + 1, hj1, by go_num, by go_num, by omega⟩
          case measure => simp [intOf]; omega
        · have HP : Hid (y = ky (dK n) ∧ (j : Int) + 1 = km (dK n) ∧ n - yfd y - cumN y j + 1 = dD n) := parts_is hy1 hj rfl (by omega) (by omega)
          go_wp2
          (try simp only [Exit.inBlock, Exit.then])
          refine bodyPost_ret (four_results rfl _ _ _) rfl ?_
          exact ⟨tup4 HP.out.1 HP.out.2.1 HP.out.2.2, rfl⟩
set_option maxHeartbeats 1000000 in
theorem dparts_bad (n : Int) (w : World) (h : n < 0 ∨ 99999 < n) :
    Calls Tryz.prog 98 #[.int .i64 n] w fun e w' => e = .returned (.tuple #[.int .i64 0, .int .i64 0, .int .i64 0, .iface 47 (.int .i64 1)]) ∧ w' = w := by
  by_cases c : n < 0
  · go_enter Tryz.func98, Tryz.ntmps98
    go_wp2
    (try simp only [Exit.inBlock, Exit.then])
    refine bodyPost_ret (four_results rfl _ _ _) rfl ?_
    exact ⟨rfl, rfl⟩
  · go_enter Tryz.func98, Tryz.ntmps98
    go_wp2
    (try simp only [Exit.inBlock, Exit.then])
    refine bodyPost_ret (four_results rfl _ _ _) rfl ?_
    exact ⟨rfl, rfl⟩
theorem tup2 {a a' : Int} {v : Value} (h1 : a = a') : Ending.returned (.tuple #[.int .i64 a, v]) = .returned (.tuple #[.int .i64 a', v]) := by rw [h1]
theorem month_is (k : Nat) : (ky k - 1900) * 12 + km k - 1 = (k : Int) := by unfold ky km; omega
set_option maxHeartbeats 1000000 in
theorem dmonth_ok (n : Int) (w : World) (hl : LenTab w) (h0 : 0 ≤ n) (h1 : n ≤ 99999) :
    Calls Tryz.prog 56 #[.int .i64 n] w fun e w' => e = .returned (.tuple #[.int .i64 (dK n : Int), .nilIface]) ∧ w' = w := by
  have hk := dK_le h0 h1
  have hy : 1900 ≤ ky (dK n) ∧ ky (dK n) ≤ 2200 := ⟨ky_ge _, by unfold ky; omega⟩
  have hm := km_bd (dK n)
  have HM : Hid ((ky (dK n) - 1900) * 12 + km (dK n) - 1 = (dK n : Int)) := month_is (dK n)
  clear hk
  go_enter Tryz.func56, Tryz.ntmps56
  go_wp2_with fail
  refine (dparts_ok n _ hl h0 h1).mono ?_
  rintro e w' ⟨rfl, hw⟩
  subst w'
  go_wp2
  go_ret2
  exact ⟨tup2 HM.out, rfl⟩
set_option maxHeartbeats 1000000 in
theorem dmonth_bad (n : Int) (w : World) (h : n < 0 ∨ 99999 < n) :
    Calls Tryz.prog 56 #[.int .i64 n] w fun e w' => e = .returned (.tuple #[.int .i64 0, .iface 47 (.int .i64 1)]) ∧ w' = w := by
  go_enter Tryz.func56, Tryz.ntmps56
  go_wp2_with fail
  refine (dparts_bad n _ h).mono ?_
  rintro e w' ⟨rfl, hw⟩
  subst w'
  go_wp2
  go_ret2
  exact ⟨rfl, rfl⟩
end Go.Proofs.YtppamojkhkdfpaaGreatDoor
