/- PROVED HERE: for every four numbers tallymankeep.MoneySplits returns true, and leaves its arguments as they were (Rows.MoneySplitsSaid). No condition. -/
import Derived.Test.YtkaihegdjhcflaaMoneyCounted
import Derived.ChangeOld
namespace Go.Proofs.Ytkaihegdjhcflaa.moneySplits
open Go.ChangeShapes Go.WideShapes Go.ChangeAt Go.RowKit
set_option linter.unusedVariables false
theorem own : ownKnob Try.prog.godebug = none := by kernel_rfl
set_option maxHeartbeats 4000000 in
theorem walk (a0 : Int) (a1 : Int) (a2 : Int) (a3 : Int) (w : World) :
    Calls Try.prog 4 #[.int .i64 a0, .int .i64 a1, .int .i64 a2, .int .i64 a3] w fun e w' => e = .returned (.bool true) ∧ Below w.heap.size w w' := by
  have hT := pk_bd a0 1000000000001 (by omega)
  have hV := pk_bd a3 100000 (by omega)
  have hA := pk_bd a1 (1 + pk a3 100000 + 1) (by omega)
  have hB := pk_bd a2 (1 + pk a3 100000 + 1) (by omega)
  have zv := shr_all (pk a0 1000000000001) (1 + pk a3 100000) (by omega)
  have z0 := shr_none (pk a0 1000000000001) (1 + pk a3 100000)
  have n1 := shr_nonneg (pk a0 1000000000001) (pk a1 (1 + pk a3 100000 + 1)) (1 + pk a3 100000) (by omega) (by omega) (by omega)
  have l1 := shr_le (pk a0 1000000000001) (pk a1 (1 + pk a3 100000 + 1)) (1 + pk a3 100000) (by omega) (by omega) (by omega)
  have n2 := shr_nonneg (pk a0 1000000000001) (pk a2 (1 + pk a3 100000 + 1)) (1 + pk a3 100000) (by omega) (by omega) (by omega)
  have l2 := shr_le (pk a0 1000000000001) (pk a2 (1 + pk a3 100000 + 1)) (1 + pk a3 100000) (by omega) (by omega) (by omega)
  have hab : (pk a1 (1 + pk a3 100000 + 1) ≤ pk a2 (1 + pk a3 100000 + 1) ∧ shr (pk a0 1000000000001) (pk a1 (1 + pk a3 100000 + 1)) (1 + pk a3 100000) ≤ shr (pk a0 1000000000001) (pk a2 (1 + pk a3 100000 + 1)) (1 + pk a3 100000))
      ∨ (pk a2 (1 + pk a3 100000 + 1) < pk a1 (1 + pk a3 100000 + 1) ∧ shr (pk a0 1000000000001) (pk a2 (1 + pk a3 100000 + 1)) (1 + pk a3 100000) ≤ shr (pk a0 1000000000001) (pk a1 (1 + pk a3 100000 + 1)) (1 + pk a3 100000)) := by
    by_cases h : pk a1 (1 + pk a3 100000 + 1) ≤ pk a2 (1 + pk a3 100000 + 1)
    · exact .inl ⟨h, shr_mono _ _ _ _ (by omega) h (by omega)⟩
    · exact .inr ⟨by omega, shr_mono _ _ _ _ (by omega) (by omega) (by omega)⟩
  have hcase : pk a1 (1 + pk a3 100000 + 1) = 1 + pk a3 100000 ∨ (pk a1 (1 + pk a3 100000 + 1) < 1 + pk a3 100000 ∧
      shr (pk a0 1000000000001 - shr (pk a0 1000000000001) (pk a1 (1 + pk a3 100000 + 1)) (1 + pk a3 100000)) (1 + pk a3 100000 - pk a1 (1 + pk a3 100000 + 1)) (1 + pk a3 100000 - pk a1 (1 + pk a3 100000 + 1)) = pk a0 1000000000001 - shr (pk a0 1000000000001) (pk a1 (1 + pk a3 100000 + 1)) (1 + pk a3 100000)) := by
    by_cases h : pk a1 (1 + pk a3 100000 + 1) = 1 + pk a3 100000
    · exact .inl h
    · exact .inr ⟨by omega, shr_all _ _ (by omega)⟩
  have HC : Hid (pk a1 (1 + pk a3 100000 + 1) = 1 + pk a3 100000 ∨ (pk a1 (1 + pk a3 100000 + 1) < 1 + pk a3 100000 ∧
      shr (pk a0 1000000000001 - shr (pk a0 1000000000001) (pk a1 (1 + pk a3 100000 + 1)) (1 + pk a3 100000)) (1 + pk a3 100000 - pk a1 (1 + pk a3 100000 + 1)) (1 + pk a3 100000 - pk a1 (1 + pk a3 100000 + 1)) = pk a0 1000000000001 - shr (pk a0 1000000000001) (pk a1 (1 + pk a3 100000 + 1)) (1 + pk a3 100000))) := hcase
  clear hcase
  rcases hab with ⟨hab, hm⟩ | ⟨hab, hm⟩
  all_goals
    rcases HC.out with hc | ⟨hc, hz⟩
    all_goals
      clear HC
      have hc' := hc
      go_enter Try.func4, Try.ntmps4
      go_wp2_with (first
        | (go_at_call 6; refine (counted_any _).mono ?_; rintro e w1 ⟨rfl, hb1⟩)
        | (go_at_call 7; refine (pick_any _ _ _ (by omega) (by omega)).mono ?_; rintro e w' ⟨rfl, hw⟩; subst w')
        | (go_at_call 9; refine (part_ok _ _ _ _ (by omega) (by omega) (by omega) (by omega) (by omega) (by omega)).mono ?_; rintro e w' ⟨rfl, n, hw⟩; subst w'))
      all_goals
        go_ret
        first
          | exact ⟨rfl, below_drewN hb1 _⟩
          | exact ⟨ret_bool (beq_iff_eq.mpr (by omega)), below_drewN hb1 _⟩
set_option maxRecDepth 100000 in
theorem lifted (os : Os) (started : os.Started) (H : Type) (enc : TypeId × Value → H) :
    ReturnsInHanded {} Try.checked os 4 .any (Rows.moneySplitsSpec.pre6 enc Try.prog Try.f4 Rows.moneySplitsRow.domain false) (Rows.moneySplitsSpec.post enc Try.prog Try.f4 false true false false) := by
  refine returnsInHanded_of_change (C := Try.checked) own started (by kernel_rfl) Try.func4
    (ChangeSpec.witness6 (enc := enc) (C := Try.checked) false ⟨#[], #[.int .i64 0, .int .i64 0, .int .i64 0, .int .i64 0], []⟩ 8 (by kernel_rfl) (by kernel_rfl) (by kernel_rfl) (by kernel_rfl)) ?_
  intro W base args ds gs before hval0 hW hcnd _
  have hval : ∀ (j : Nat) t v, Try.f4.params[j]? = some t → args[j]? = some v → Value.okWide Try.prog W .any base t v := hval0
  have hW' := hW
  obtain ⟨p, q, hA0, hV, rfl, hfz, hnd⟩ := hW
  have hA : DataW.TrodAll enc Try.prog W 0 (fun _ => true) true Try.f4.params.toList args.toList ds p := hA0
  rw [Try.params4] at hA hval
  obtain ⟨v0, vs0, d0, ds0, p0, q0, hargs, rfl, rfl, h0, r0⟩ := trodAll_cons hA
  obtain ⟨v1, vs1, d1, ds1, p1, q1, rfl, rfl, rfl, h1, r1⟩ := trodAll_cons r0
  obtain ⟨v2, vs2, d2, ds2, p2, q2, rfl, rfl, rfl, h2, r2⟩ := trodAll_cons r1
  obtain ⟨v3, vs3, d3, ds3, p3, q3, rfl, rfl, rfl, h3, r3⟩ := trodAll_cons r2
  obtain ⟨rfl, rfl, rfl⟩ := trodAll_nil r3
  obtain rfl : args = #[v0, v1, v2, v3] := by cases args; simp_all
  obtain ⟨rfl, rfl⟩ := trodVars_none hV
  obtain ⟨a0, rfl, rfl, rfl, w0⟩ := open_int Try.underlying3 (hval 0 3 v0 rfl rfl) h0
  obtain ⟨a1, rfl, rfl, rfl, w1⟩ := open_int Try.underlying3 (hval 1 3 v1 rfl rfl) h1
  obtain ⟨a2, rfl, rfl, rfl, w2⟩ := open_int Try.underlying3 (hval 2 3 v2 rfl rfl) h2
  obtain ⟨a3, rfl, rfl, rfl, w3⟩ := open_int Try.underlying3 (hval 3 3 v3 rfl rfl) h3
  clear hA0 hval0
  refine (walk a0 a1 a2 a3 W).mono fun e W' ⟨he, bel⟩ => ?_
  subst he
  exact ⟨_, rfl, _, _, _, [], _, [], hW', trodAll_mk1 (shut_bool Try.underlying4 _), (trodAll_cons_mk (shut_int Try.underlying3 w0) (trodAll_cons_mk (shut_int Try.underlying3 w1) (trodAll_cons_mk (shut_int Try.underlying3 w2) (trodAll_cons_mk (shut_int Try.underlying3 w3) trodAll_mk0)))), rfl, bel.frame _, fun h => by cases h⟩
theorem over : Rows.moneySplitsRow.holds Try.pinned (OpenSpec.ofChange Rows.moneySplitsSpec) :=
  OpenClaim.holds_of_wide 4 Try.f4 rfl rfl rfl rfl rfl rfl rfl ⟨rfl, rfl, rfl, rfl, rfl⟩ rfl rfl rfl rfl rfl (by kernel_rfl) Try.func4 (by kernel_rfl)
    (of_decide_eq_true (by kernel_rfl)) (by unfold Func.isWrapper; first | (rw [if_pos (by decide +kernel)]; kernel_rfl) | (rw [if_neg (by decide +kernel)]; exact ⟨rfl, rfl⟩))
    (fun os started H enc _ => lifted os started H enc)
end Go.Proofs.Ytkaihegdjhcflaa.moneySplits
namespace Go.Proofs.Ytkaihegdjhcflaa
theorem moneySplits_holds : Rows.MoneySplitsSaid := moneySplits.over
end Go.Proofs.Ytkaihegdjhcflaa
#print axioms Go.Proofs.Ytkaihegdjhcflaa.moneySplits_holds
