/- PROVED HERE: for every number and every text tallymankeep.MoneyBack returns true, and leaves its arguments as they were (Rows.MoneyBackSaid). No condition. -/
import Derived.Test.YtkaihegdjhcflaaMoneyCounted
import Derived.Test.YtkaihegdjhcflaaAmountMath
import Derived.ShutString
import Derived.ChangeOld
namespace Go.Proofs.Ytkaihegdjhcflaa.moneyBack
open Go.ChangeShapes Go.WideShapes Go.ChangeAt Go.RowKit
open Go.ChangeMaps (open_string shut_string)
set_option linter.unusedVariables false
theorem own : ownKnob Try.prog.godebug = none := by kernel_rfl
set_option maxHeartbeats 4000000 in
theorem walk (a0 : Int) (a1 : ByteArray) (w : World) (w0 : (Lit.int .i64 a0).wf = true) (w1 : a1.size ≤ maxLen) :
    Calls Try.prog 5 #[.int .i64 a0, .string a1] w fun e w' => e = .returned (.bool true) ∧ Below w.heap.size w w' := by
  unfold maxLen at w1
  by_cases hlen : a1.size ≤ 100
  · have hN := pk_bd a0 2000000000001 (by omega)
    have HP : Hid (parsed (strOfNums (amt (pk a0 2000000000001 - 1000000000000))).data.toList = some (pk a0 2000000000001 - 1000000000000)) := parsed_amt (pk a0 2000000000001 - 1000000000000) (by omega) (by omega)
    rcases hp : parsed a1.data.toList with _ | m
    · have HB : Hid (parsed a1.data.toList = none) := hp
      clear hp
      go_enter Try.func5, Try.ntmps5
      go_wp2_with (first
        | (go_at_call 6; refine (counted_any _).mono ?_; rintro e w1 ⟨rfl, hb1⟩))
      refine (parse_bad a1 _ (by unfold maxLen; omega) HB.out).mono ?_
      rintro e w2 ⟨rfl, hb2⟩
      clear HB
      go_wp2_with (first
        | (go_at_call 7; refine (pick_any _ _ _ (by omega) (by omega)).mono ?_; rintro e w' ⟨rfl, hw⟩; subst w'))
      refine (print_any (pk a0 2000000000001 - 1000000000000) _ (by omega) (by omega)).mono ?_
      rintro e w3 ⟨rfl, hb3⟩
      go_wp2_with fail
      refine (parse_ok _ _ _ HP.out).mono ?_
      rintro e w4 ⟨rfl, hb4⟩
      clear HP
      go_wp2
      go_ret
      have h12 := hb1.trans (hb2.mono hb1.size)
      have h13 := h12.trans (hb3.mono h12.size)
      exact ⟨rfl, h13.trans (hb4.mono h13.size)⟩
    · have HB : Hid (parsed a1.data.toList = some m) := hp
      have hm := parsed_some hp
      have hcmp : ((strOfNums (amt m)).toList == a1.toList) = true := by
        rw [eql_iff]; exact decide_eq_true hm.2.2.2.1
      have hm1 : -1000000000000 ≤ m := hm.2.1
      have hm2 : m ≤ 1000000000000 := hm.2.2.1
      clear hp hm
      go_enter Try.func5, Try.ntmps5
      go_wp2_with (first
        | (go_at_call 6; refine (counted_any _).mono ?_; rintro e w1 ⟨rfl, hb1⟩))
      refine (parse_ok a1 m _ HB.out).mono ?_
      rintro e w2 ⟨rfl, hb2⟩
      clear HB
      go_wp2_with fail
      refine (print_any m _ (by omega) (by omega)).mono ?_
      rintro e w5 ⟨rfl, hb5⟩
      go_wp2_with (first
        | (go_at_call 7; refine (pick_any _ _ _ (by omega) (by omega)).mono ?_; rintro e w' ⟨rfl, hw⟩; subst w'))
      refine (print_any (pk a0 2000000000001 - 1000000000000) _ (by omega) (by omega)).mono ?_
      rintro e w3 ⟨rfl, hb3⟩
      go_wp2_with fail
      refine (parse_ok _ _ _ HP.out).mono ?_
      rintro e w4 ⟨rfl, hb4⟩
      clear HP
      go_wp2
      go_ret
      have h12 := hb1.trans (hb2.mono hb1.size)
      have h15 := h12.trans (hb5.mono h12.size)
      have h13 := h15.trans (hb3.mono h15.size)
      exact ⟨rfl, h13.trans (hb4.mono h13.size)⟩
  · go_enter Try.func5, Try.ntmps5
    go_wp2
    go_ret
    exact ⟨rfl, Below.refl _ _⟩
set_option maxRecDepth 100000 in
theorem lifted (os : Os) (started : os.Started) (H : Type) (enc : TypeId × Value → H) :
    ReturnsInHanded {} Try.checked os 5 .any (Rows.moneyBackSpec.pre6 enc Try.prog Try.f5 Rows.moneyBackRow.domain false) (Rows.moneyBackSpec.post enc Try.prog Try.f5 false true false false) := by
  refine returnsInHanded_of_change (C := Try.checked) own started (by kernel_rfl) Try.func5
    (ChangeSpec.witness6 (enc := enc) (C := Try.checked) false ⟨#[], #[.int .i64 0, .string ByteArray.empty], []⟩ 8 (by kernel_rfl) (by kernel_rfl) (by kernel_rfl) (by kernel_rfl)) ?_
  intro W base args ds gs before hval0 hW hcnd _
  have hval : ∀ (j : Nat) t v, Try.f5.params[j]? = some t → args[j]? = some v → Value.okWide Try.prog W .any base t v := hval0
  have hW' := hW
  obtain ⟨p, q, hA0, hV, rfl, hfz, hnd⟩ := hW
  have hA : DataW.TrodAll enc Try.prog W 0 (fun _ => true) true Try.f5.params.toList args.toList ds p := hA0
  rw [Try.params5] at hA hval
  obtain ⟨v0, vs0, d0, ds0, p0, q0, hargs, rfl, rfl, h0, r0⟩ := trodAll_cons hA
  obtain ⟨v1, vs1, d1, ds1, p1, q1, rfl, rfl, rfl, h1, r1⟩ := trodAll_cons r0
  obtain ⟨rfl, rfl, rfl⟩ := trodAll_nil r1
  obtain rfl : args = #[v0, v1] := by cases args; simp_all
  obtain ⟨rfl, rfl⟩ := trodVars_none hV
  obtain ⟨a0, rfl, rfl, rfl, w0⟩ := open_int Try.underlying3 (hval 0 3 v0 rfl rfl) h0
  obtain ⟨a1, rfl, rfl, rfl, w1⟩ := open_string Try.underlying9 (hval 1 9 v1 rfl rfl) h1
  clear hA0 hval0
  refine (walk a0 a1 W w0 w1).mono fun e W' ⟨he, bel⟩ => ?_
  subst he
  exact ⟨_, rfl, _, _, _, [], _, [], hW', trodAll_mk1 (shut_bool Try.underlying4 _), (trodAll_cons_mk (shut_int Try.underlying3 w0) (trodAll_cons_mk (shut_string Try.underlying9 w1) trodAll_mk0)), rfl, bel.frame _, fun h => by cases h⟩
theorem over : Rows.moneyBackRow.holds Try.pinned (OpenSpec.ofChange Rows.moneyBackSpec) :=
  OpenClaim.holds_of_wide 5 Try.f5 rfl rfl rfl rfl rfl rfl rfl ⟨rfl, rfl, rfl, rfl, rfl⟩ rfl rfl rfl rfl rfl (by kernel_rfl) Try.func5 (by kernel_rfl)
    (of_decide_eq_true (by kernel_rfl)) (by unfold Func.isWrapper; first | (rw [if_pos (by decide +kernel)]; kernel_rfl) | (rw [if_neg (by decide +kernel)]; exact ⟨rfl, rfl⟩))
    (fun os started H enc _ => lifted os started H enc)
end Go.Proofs.Ytkaihegdjhcflaa.moneyBack
namespace Go.Proofs.Ytkaihegdjhcflaa
theorem moneyBack_holds : Rows.MoneyBackSaid := moneyBack.over
end Go.Proofs.Ytkaihegdjhcflaa
#print axioms Go.Proofs.Ytkaihegdjhcflaa.moneyBack_holds
