/- The walk of slices.Equal at []int, at rows that are alike. -/
import Derived.Test.YtkaihegdjhcflaaMoneyTogether
import Derived.WalkSmall
namespace Go.Proofs.Ytkaihegdjhcflaa
open Go.RowKit
set_option maxHeartbeats 1000000 in
theorem equal_same (ao bo : Option Addr) (c1 c2 : Nat) (zs : List Int) (w : World) (hr : Row w ao zs) (hr' : Row w bo zs) (hl : zs.length ≤ 60) :
    Calls Try.prog 12 #[.slice ao zs.length c1, .slice bo zs.length c2] w fun e w' => e = .returned (.bool true) ∧ ∃ n, w' = w.drewN n := by
  go_enter Try.func12, Try.ntmps12
  go_wp2
  go_loopw [13] (fun i wr => ∃ k : Nat, k ≤ zs.length ∧ i = .int .i64 k ∧ ∃ n, wr = w.drewN n) (fun i _ => zs.length - (intOf i).toNat)
  case atStart => exact ⟨0, Nat.zero_le _, rfl, 0, rfl⟩
  case round =>
    obtain ⟨k, hk, rfl, n, rfl⟩ := hrel
    by_cases hlt : k < zs.length
    · obtain ⟨b, off, rfl, hcell⟩ : ∃ b off, ao = some ⟨b, off, none⟩ ∧ ∀ i, i < zs.length → w.cell? ⟨b, off + i, none⟩ = some (.int .i64 (zs.getD i 0)) := by
        rcases hr with rfl | h
        · simp at hlt
        · exact h
      obtain ⟨b', off', rfl, hcell'⟩ : ∃ b off, bo = some ⟨b, off, none⟩ ∧ ∀ i, i < zs.length → w.cell? ⟨b, off + i, none⟩ = some (.int .i64 (zs.getD i 0)) := by
        rcases hr' with rfl | h
        · simp at hlt
        · exact h
      have hc := hcell k hlt
      have hc' := hcell' k hlt
      have hki : (k : Int) < (zs.length : Int) := by omega
      clear hr hr' hcell hcell'
      go_wp2
      go_quiet (fail)
      go_wp2
      go_roundw
      case rel => exact ⟨k + 1, by omega, by go_num, _, rfl⟩
      case measure => simp [intOf]; omega
    · clear hr hr'
      go_wp2
      go_ret
      exact ⟨rfl, _, rfl⟩
end Go.Proofs.Ytkaihegdjhcflaa
