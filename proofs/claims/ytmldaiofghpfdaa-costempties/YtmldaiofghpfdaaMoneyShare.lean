/- The walks of money.share and money.Part: each returns what the plain mathematics says. -/
import Derived.Test.YtmldaiofghpfdaaBase
import Derived.Test.YtmldaiofghpfdaaMoneyMath
namespace Go.Proofs.Ytmldaiofghpfdaa
open Go.RowKit
set_option maxHeartbeats 1000000 in
theorem share_any (t s v : Int) (w : World) (ht : 0 ≤ t) (ht' : t ≤ 20000000000000) (hs : 0 ≤ s) (hsv : s ≤ v) (hv : 1 ≤ v) (hv' : v ≤ 100000000) :
    Calls Try.prog 44 #[.int .i64 t, .int .i64 s, .int .i64 v] w fun e w' => e = .returned (.int .i64 (shr t s v)) ∧ ∃ n, w' = w.drewN n := by
  have hq := quo_bd t s v ht hs hsv (by omega)
  have hr := rem_bd t s v 100000000 hs hsv (by omega) hv'
  have hm0 : 0 ≤ t % v := Int.emod_nonneg t (by omega)
  have hm1 : t % v < v := Int.emod_lt_of_pos t (by omega)
  have HS : Hid (t / v * s + t % v * s / v = shr t s v) := shr_split t s v (by omega)
  go_enter Try.func44, Try.ntmps44
  go_wp2
  go_quiet (fail)
  go_wp2
  go_ret
  exact ⟨ret_int HS.out, _, rfl⟩
set_option maxHeartbeats 1000000 in
theorem part_ok (t s v : Int) (w : World) (ht : 0 ≤ t) (ht' : t ≤ 20000000000000) (hs : 0 ≤ s) (hsv : s ≤ v) (hv : 1 ≤ v) (hv' : v ≤ 100000) :
    Calls Try.prog 42 #[.int .i64 t, .int .i64 s, .int .i64 v] w fun e w' => e = .returned (.tuple #[.int .i64 (shr t s v), .nilIface]) ∧ ∃ n, w' = w.drewN n := by
  go_enter Try.func42, Try.ntmps42
  go_wp2_with (go_at_call 44; refine (share_any _ _ _ _ ht ht' hs hsv hv (by omega)).mono ?_; rintro e w' ⟨rfl, n, rfl⟩)
  go_ret2
  exact ⟨rfl, _, rfl⟩
end Go.Proofs.Ytmldaiofghpfdaa
