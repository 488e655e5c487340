/- The walk of ledger.account. -/
import Derived.Test.YtcfgacdcgljbaaaGreatDoorBnC
import Derived.Test.YtcfgacdcgljbaaaGreatDoorBnA
namespace Go.Proofs.YtcfgacdcgljbaaaGreatDoor
open Go.RowKit
/-- What ledger.accounts holds. -/
structure AccG (w : World) : Prop where
  c0 : w.cell? ⟨1, 0, none⟩ = some (.string aGain)
  c1 : w.cell? ⟨1, 1, none⟩ = some (.string aLate)
  c2 : w.cell? ⟨1, 2, none⟩ = some (.string aLoss)
  c3 : w.cell? ⟨1, 3, none⟩ = some (.string aSold)
  c4 : w.cell? ⟨1, 4, none⟩ = some (.string aStock)
  c5 : w.cell? ⟨1, 5, none⟩ = some (.string aSupply)
theorem AccG.below {w w' : World} (h : AccG w) (hb : Below w.heap.size w w') : AccG w' :=
  have k : ∀ {p : Addr} {v : Value}, w.cell? p = some v → w'.cell? p = some v := fun e => (hb.cell (World.block_lt_of_cell? _ _ e)).trans e
  ⟨k h.c0, k h.c1, k h.c2, k h.c3, k h.c4, k h.c5⟩
/-- The account that a word tells. -/
def accOf (s : ByteArray) : ByteArray := if accL.any (fun a => decide (a = s)) = true then s else ⟨#[]⟩
theorem accOf_mem {s : ByteArray} (h : s ∈ accL) : accOf s = s := by
  unfold accOf
  rw [if_pos (List.any_eq_true.2 ⟨s, h, by simp⟩)]
theorem accOf_not {s : ByteArray} (h : s ∉ accL) : accOf s = ⟨#[]⟩ := by
  unfold accOf
  rw [if_neg]
  rw [List.any_eq_true]
  rintro ⟨a, ha, e⟩
  have e' : a = s := by simpa using e
  exact h (e' ▸ ha)
theorem ixa (a b c d e f : Value) (k : Nat) (hk : k < 6) (w : World) : (Instr.index 287 (.agg #[a, b, c, d, e, f]) (.int .i64 k)).run Tryz.prog w = .ok (#[a, b, c, d, e, f][k]'(by simpa using hk)) w := by
  obtain rfl | rfl | rfl | rfl | rfl | rfl : k = 0 ∨ k = 1 ∨ k = 2 ∨ k = 3 ∨ k = 4 ∨ k = 5 := by omega
  · exact (show (Instr.index 287 (.agg #[a, b, c, d, e, f]) (.int .i64 0)).run Tryz.prog w = .ok a w by kernel_rfl)
  · exact (show (Instr.index 287 (.agg #[a, b, c, d, e, f]) (.int .i64 1)).run Tryz.prog w = .ok b w by kernel_rfl)
  · exact (show (Instr.index 287 (.agg #[a, b, c, d, e, f]) (.int .i64 2)).run Tryz.prog w = .ok c w by kernel_rfl)
  · exact (show (Instr.index 287 (.agg #[a, b, c, d, e, f]) (.int .i64 3)).run Tryz.prog w = .ok d w by kernel_rfl)
  · exact (show (Instr.index 287 (.agg #[a, b, c, d, e, f]) (.int .i64 4)).run Tryz.prog w = .ok e w by kernel_rfl)
  · exact (show (Instr.index 287 (.agg #[a, b, c, d, e, f]) (.int .i64 5)).run Tryz.prog w = .ok f w by kernel_rfl)
theorem ixacc (k : Nat) (hk : k < accL.length) (w : World) : (Instr.index 287 (.agg #[.string aGain, .string aLate, .string aLoss, .string aSold, .string aStock, .string aSupply]) (.int .i64 k)).run Tryz.prog w = .ok (.string accL[k]) w := by
  have h6 : k < 6 := hk
  rw [ixa _ _ _ _ _ _ k h6 w]
  obtain rfl | rfl | rfl | rfl | rfl | rfl : k = 0 ∨ k = 1 ∨ k = 2 ∨ k = 3 ∨ k = 4 ∨ k = 5 := by omega
  all_goals rfl
theorem str_eq {a b : ByteArray} : (a.toList == b.toList) = decide (a = b) := by
  rw [ByteArray.toList_eq, ByteArray.toList_eq, Bool.eq_iff_iff]
  simp only [beq_iff_eq, decide_eq_true_eq]
  exact ⟨fun e => ByteArray.ext (Array.toList_inj.1 e), fun e => by rw [e]⟩
set_option maxRecDepth 20000 in
set_option maxHeartbeats 2000000 in
theorem account_any (s : ByteArray) (w : World) (hg : AccG w) : Calls Tryz.prog 133 #[.string s] w fun r w' => r = .returned (.string (accOf s)) ∧ w' = w := by
  obtain ⟨c0, c1, c2, c3, c4, c5⟩ := hg
  have hix := ixacc
  go_enter Tryz.func133, Tryz.ntmps133
  go_wp2
  clear c0 c1 c2 c3 c4 c5
  go_loopw [6] (fun i wr => ∃ k : Nat, k ≤ 6 ∧ i = .int .i64 k ∧ Hid (wr = w) ∧ Hid (∀ j (hj : j < accL.length), j < k → accL[j] ≠ s)) (fun i _ => 6 - (intOf i).toNat)
  case atStart => exact ⟨0, by omega, rfl, hidE rfl, fun j _ h => absurd h (Nat.not_lt_zero _)⟩
  case round =>
    obtain ⟨k, hk, rfl, HWR, HN⟩ := hrel
    have hwr : wr = w := HWR.out
    clear HWR
    subst hwr
    have hl6 : accL.length = 6 := rfl
    by_cases hlt : k < 6
    · have hx := hix k (by omega) wr
      obtain ⟨a, ha⟩ : ∃ a, a = accL[k]'(by omega) := ⟨_, rfl⟩
      rw [← ha] at hx
      have HA := hidE ha
      clear ha hix
      by_cases e : a = s
      · have he : (a.toList == s.toList) = true := by rw [str_eq]; simpa using e
        have HE : Hid (accOf s = a) := by
          show accOf s = a
          rw [accOf_mem (by rw [← e, HA.out]; exact List.getElem_mem _), e]
        clear e
        go_wp2
        go_ret
        exact ⟨by rw [HE.out]; rfl, rfl⟩
      · have he : (a.toList == s.toList) = false := by rw [str_eq]; simpa using e
        have HE := hidE e
        clear e
        go_wp2
        go_roundw
        case rel =>
          refine ⟨k + 1, by omega, by go_num, hidE (by first | trivial | rfl), fun j hj hjk => ?_⟩
          by_cases c : j < k
          · exact HN.out j hj c
          · obtain rfl : j = k := by omega
            rw [← HA.out]; exact HE.out
        case measure => simp [intOf]; omega
    · obtain rfl : k = 6 := by omega
      have HE : Hid (accOf s = ⟨#[]⟩) := accOf_not fun hm => by
        obtain ⟨j, hj, e⟩ := List.getElem_of_mem hm
        exact HN.out j hj (by omega) e
      clear hix
      go_wp2
      go_ret
      exact ⟨by rw [HE.out]; rfl, rfl⟩
end Go.Proofs.YtcfgacdcgljbaaaGreatDoor
