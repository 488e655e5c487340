/- PROVED HERE: for every three numbers tallymankeep.DayMonths returns true, and leaves its arguments as they were, where the package-level variable that its row lists holds what the program's text lays (the tied card Rows.DayMonthsCardSaid). No other condition. -/
import Derived.Test.YtcgkjnnkgdlefaaDoorDayDated
import Derived.Test.YtcgkjnnkgdlefaaDoorCards
import Derived.Test.YtcgkjnnkgdlefaaDoorTie
import Derived.ShutString
import Derived.ChangeOld
import Derived.LaidHandle
import Derived.Lay
import Derived.Lib.LaidTab
import Derived.Stop.Joined
import Derived.SevenTiedAt
import Derived.Shelf.Vars
namespace Go.Proofs.YtcgkjnnkgdlefaaDoor.dayMonths
open Go.ChangeShapes Go.WideShapes Go.ChangeAt Go.RowKit
set_option linter.unusedVariables false
set_option linter.unusedSimpArgs false
theorem own : ownKnob Tryd.prog.godebug = none := by kernel_rfl
theorem gLen : Tryd.prog.globalNamed "tallyman/day.lengths" = some 0 := by kernel_rfl
theorem lenType : (Tryd.prog.globals[0]?).map (·.type) = some 43 := by kernel_rfl
/-- What the listed variable gives the walks. -/
theorem glob_of {W : World} (h : laidMetH Tryd.prog Rows.dayMonthsRow.laid W) (hsh : W.ShapedOpen Tryd.prog) : LenTab W := by
  have hp : laidMet Tryd.prog [("tallyman/day.lengths", Rows.laid_tallyman_day_lengths)] W := h
  have ht := Lib.tabIs_of_head (k := .i64) (zs := [31, 28, 31, 30, 31, 30, 31, 31, 30, 31, 30, 31]) gLen lenType Tryd.underlying43 Tryd.underlying3 (by kernel_rfl) (by kernel_rfl) (show laidMet Tryd.prog (("tallyman/day.lengths", Lib.tabData .i64 [31, 28, 31, 30, 31, 30, 31, 31, 30, 31, 30, 31]) :: _) W from hp)
  intro k hk
  rw [World.var?_cell gLen ht k]
  have : k = 0 ∨ k = 1 ∨ k = 2 ∨ k = 3 ∨ k = 4 ∨ k = 5 ∨ k = 6 ∨ k = 7 ∨ k = 8 ∨ k = 9 ∨ k = 10 ∨ k = 11 := by omega
  rcases this with rfl | rfl | rfl | rfl | rfl | rfl | rfl | rfl | rfl | rfl | rfl | rfl <;> rfl
set_option maxHeartbeats 4000000 in
set_option maxRecDepth 20000 in
theorem walk (a0 a1 a2 : Int) (w : World) (hl : LenTab w) (w0 : (Lit.int .i64 a0).wf = true) (w1 : (Lit.int .i64 a1).wf = true) (w2 : (Lit.int .i64 a2).wf = true) :
    Calls Tryd.prog 4 #[.int .i64 a0, .int .i64 a1, .int .i64 a2] w fun e w' => e = .returned (.bool true) ∧ Below w.heap.size w w' := by
  clear w0 w1 w2
  obtain ⟨x, hx⟩ : ∃ x, x = pk a0 3285 := ⟨_, rfl⟩
  obtain ⟨y, hy⟩ : ∃ x, x = pk a1 100000 := ⟨_, rfl⟩
  obtain ⟨z, hz⟩ : ∃ x, x = pk a2 100000 := ⟨_, rfl⟩
  have hxb := pk_bd a0 3285 (by omega)
  have hyb := pk_bd a1 100000 (by omega)
  have hzb := pk_bd a2 100000 (by omega)
  have P0 := fun v => pick_any a0 3285 v (by omega) (by omega)
  have P1 := fun v => pick_any a1 100000 v (by omega) (by omega)
  have P2 := fun v => pick_any a2 100000 v (by omega) (by omega)
  rw [← hx] at hxb P0
  rw [← hy] at hyb P1
  rw [← hz] at hzb P2
  have HP0 : Hid (∀ v, Calls Tryd.prog 8 #[.int .i64 a0, .int .i64 3285] v fun e w' => e = .returned (.int .i64 x) ∧ w' = v) := P0
  have HP1 : Hid (∀ v, Calls Tryd.prog 8 #[.int .i64 a1, .int .i64 100000] v fun e w' => e = .returned (.int .i64 y) ∧ w' = v) := P1
  have HP2 : Hid (∀ v, Calls Tryd.prog 8 #[.int .i64 a2, .int .i64 100000] v fun e w' => e = .returned (.int .i64 z) ∧ w' = v) := P2
  clear P0 P1 P2 hx hy hz
  obtain ⟨k, rfl⟩ : ∃ k : Nat, x = (k : Int) := ⟨x.toNat, by omega⟩
  obtain ⟨q1, q2, q3, q4⟩ := last_day (k := k) (by omega)
  obtain ⟨t, ht⟩ : ∃ t, t = kfd k + klen k - 1 := ⟨_, rfl⟩
  rw [← ht] at q1 q2 q3 q4
  have HLA : Hid (∀ v, LenTab v → Calls Tryd.prog 11 #[.int .i64 k] v fun e w' => e = .returned (.tuple #[.int .i64 t, .nilIface]) ∧ w' = v) := by
    intro v hv
    exact last_ok k t v hv (by omega) (by rw [if_neg (by omega)]; exact ht)
  have HM1 : Hid (∀ v, LenTab v → Calls Tryd.prog 12 #[.int .i64 t] v fun e w' => e = .returned (.tuple #[.int .i64 k, .nilIface]) ∧ w' = v) := by
    intro v hv
    have := dmonth_ok t v hv (by omega) (by omega)
    rw [q3] at this; exact this
  have HM2 : Hid (∀ v, LenTab v → Calls Tryd.prog 12 #[.int .i64 (t + 1)] v fun e w' => e = .returned (.tuple #[.int .i64 (k + 1), .nilIface]) ∧ w' = v) := by
    intro v hv
    have := dmonth_ok (t + 1) v hv (by omega) (by omega)
    rw [q4] at this; exact this
  have hmono : ∀ a b : Int, 0 ≤ a → a ≤ b → (dK a : Int) ≤ (dK b : Int) := by
    intro a b ha hb
    have := dK_mono ha hb
    omega
  have HMO : Hid (∀ a b : Int, 0 ≤ a → a ≤ b → (dK a : Int) ≤ (dK b : Int)) := hmono
  clear hmono
  have hk1 : (k : Int) ≤ 3284 := by omega
  clear ht q3 q4
  have HL : Hid (LenTab w) := hl
  clear hl
  go_enter Tryd.func4, Tryd.ntmps4
  go_wp2_with fail
  refine (dated_any _ HL.out).mono ?_
  rintro e w1 ⟨rfl, hb1⟩
  have HL1 : Hid (LenTab w1) := HL.out.below hb1
  clear HL
  go_wp2_with fail
  refine (HP0.out _).mono ?_
  rintro e w' ⟨rfl, hw⟩
  subst w'
  go_wp2_with fail
  refine (HLA.out _ HL1.out).mono ?_
  rintro e w' ⟨rfl, hw⟩
  subst w'
  go_wp2_with fail
  refine (HM1.out _ HL1.out).mono ?_
  rintro e w' ⟨rfl, hw⟩
  subst w'
  go_wp2_with fail
  refine (HM2.out _ HL1.out).mono ?_
  rintro e w' ⟨rfl, hw⟩
  subst w'
  clear HP0 HLA HM1 HM2
  go_wp2_with fail
  refine (HP1.out _).mono ?_
  rintro e w' ⟨rfl, hw⟩
  subst w'
  go_wp2_with fail
  refine (HP2.out _).mono ?_
  rintro e w' ⟨rfl, hw⟩
  subst w'
  clear HP1 HP2
  rcases Int.lt_trichotomy y z with hyz | hyz | hyz
  · have hm := HMO.out y z (by omega) (by omega)
    clear HMO
    go_wp2_with fail
    refine (dmonth_ok y _ HL1.out (by omega) (by omega)).mono ?_
    rintro e w' ⟨rfl, hw⟩
    subst w'
    go_wp2_with fail
    refine (dmonth_ok z _ HL1.out (by omega) (by omega)).mono ?_
    rintro e w' ⟨rfl, hw⟩
    subst w'
    clear HL1
    go_wp2
    go_ret
    exact ⟨dret_bool (by simp [hm]), hb1⟩
  · subst z
    have hm := HMO.out y y (by omega) (by omega)
    clear HMO
    go_wp2_with fail
    refine (dmonth_ok y _ HL1.out (by omega) (by omega)).mono ?_
    rintro e w' ⟨rfl, hw⟩
    subst w'
    go_wp2_with fail
    refine (dmonth_ok y _ HL1.out (by omega) (by omega)).mono ?_
    rintro e w' ⟨rfl, hw⟩
    subst w'
    clear HL1
    go_wp2
    go_ret
    exact ⟨dret_bool (by simp [hm]), hb1⟩
  · have hm := HMO.out z y (by omega) (by omega)
    clear HMO
    go_wp2_with fail
    refine (dmonth_ok z _ HL1.out (by omega) (by omega)).mono ?_
    rintro e w' ⟨rfl, hw⟩
    subst w'
    go_wp2_with fail
    refine (dmonth_ok y _ HL1.out (by omega) (by omega)).mono ?_
    rintro e w' ⟨rfl, hw⟩
    subst w'
    clear HL1
    go_wp2
    go_ret
    exact ⟨dret_bool (by simp [hm]), hb1⟩
set_option maxRecDepth 100000 in
theorem start_met (os : Os) (args : Array Value) : laidMetH Tryd.prog Rows.dayMonthsRow.laid (((World.holding Tryd.prog os ⟨#[], #[], []⟩).layVars Tryd.prog [("tallyman/day.lengths", Rows.laid_tallyman_day_lengths)]).forCall (fun _ _ => 0) ⟨#[], args, []⟩).memory := by
  have h : laidMet Tryd.prog [("tallyman/day.lengths", Rows.laid_tallyman_day_lengths)] ((World.holding Tryd.prog os ⟨#[], #[], []⟩).layVars Tryd.prog [("tallyman/day.lengths", Rows.laid_tallyman_day_lengths)]) :=
    laidMet_layVars (w0 := (World.holding Tryd.prog os ⟨#[], #[], []⟩)) ["tallyman/day.lengths"] [] (by kernel_rfl) (by kernel_rfl) (by kernel_rfl) LaidIn.none
  exact laidMetH_of_parts (h.of_heap (by simp [World.memory, World.forCall, Input.heap])) (by kernel_rfl)
set_option maxRecDepth 100000 in
theorem lifted (os : Os) (started : os.Started) (H : Type) (enc : TypeId × Value → H) :
    ReturnsInHanded {} Tryd.checked os 4 .any (fun w args => (Rows.dayMonthsSpec.pre enc Tryd.prog Tryd.f4 Rows.dayMonthsRow.domain false w args ∧ laidMetH Tryd.prog Rows.dayMonthsRow.laid w) ∧ sizedMet enc Tryd.prog Tryd.f4 (OpenSpec.ofChange Rows.dayMonthsSpec) false w args)
      (Rows.dayMonthsSpec.post enc Tryd.prog Tryd.f4 false true false false) := by
  refine returnsInHanded_of_calls (C := Tryd.checked) own started (by kernel_rfl)
    (ChangeSpec.witness_shaped (enc := enc) (C := Tryd.checked) (os := os) (X := fun w _ => laidMetH Tryd.prog Rows.dayMonthsRow.laid w) false ((World.holding Tryd.prog os ⟨#[], #[], []⟩).layVars Tryd.prog [("tallyman/day.lengths", Rows.laid_tallyman_day_lengths)]) #[.int .i64 0, .int .i64 0, .int .i64 0] 8 (World.layVars_os _ _ _)
      (World.shaped_of_ZipB (by kernel_rfl) (by kernel_rfl)) (by kernel_rfl) (by kernel_rfl) (by kernel_rfl) (start_met os _)) ?_
  intro w tape i _ hsh _ hok hpre _
  obtain ⟨_, _, _, fn', hfn', _, _, _, _, hval0⟩ := hok
  obtain rfl : fn' = Tryd.f4 := Option.some.inj (hfn'.symm.trans Tryd.func4)
  obtain ⟨⟨⟨ds, gs, before, hw, _⟩, hL0⟩, _⟩ := hpre
  have hW := DataW.Whole.of_heap (w' := w.forCall tape i) (by rfl) hw
  have hL : laidMetH Tryd.prog Rows.dayMonthsRow.laid (w.forCall tape i) := hL0.of_heap (by rfl)
  clear hw hL0
  suffices hs : Calls Tryd.prog 4 i.args (w.forCall tape i) fun e W' => ∃ v, e = .returned v ∧ Rows.dayMonthsSpec.post enc Tryd.prog Tryd.f4 false true false false (w.forCall tape i) i.args v W' from
    hs.mono fun e W' ⟨v, he, hp⟩ => by subst he; exact ChangeSpec.post_blind hp
  generalize i.args = args at *
  generalize w.forCall tape i = W at *
  have hgl := glob_of hL hsh
  have hval : ∀ (j : Nat) t v, Tryd.f4.params[j]? = some t → args[j]? = some v → Value.okWide Tryd.prog W .any w.heap.size t v := hval0
  have hW' := hW
  obtain ⟨p, q, hA0, hV, rfl, hfz, hnd⟩ := hW
  have hA : DataW.TrodAll enc Tryd.prog W 0 (fun _ => true) true Tryd.f4.params.toList args.toList ds p := hA0
  rw [Tryd.params4] at hA hval
  obtain ⟨v0, vs0, d0, ds0, p0, q0, hargs, rfl, rfl, h0, r0⟩ := trodAll_cons hA
  obtain ⟨v1, vs1, d1, ds1, p1, q1, rfl, rfl, rfl, h1, r1⟩ := trodAll_cons r0
  obtain ⟨v2, vs2, d2, ds2, p2, q2, rfl, rfl, rfl, h2, r2⟩ := trodAll_cons r1
  obtain ⟨rfl, rfl, rfl⟩ := trodAll_nil r2
  obtain rfl : args = #[v0, v1, v2] := by cases args; simp_all
  obtain ⟨rfl, rfl⟩ := trodVars_none hV
  obtain ⟨a0, rfl, rfl, rfl, w0⟩ := open_int Tryd.underlying3 (hval 0 3 v0 rfl rfl) h0
  obtain ⟨a1, rfl, rfl, rfl, w1⟩ := open_int Tryd.underlying3 (hval 1 3 v1 rfl rfl) h1
  obtain ⟨a2, rfl, rfl, rfl, w2⟩ := open_int Tryd.underlying3 (hval 2 3 v2 rfl rfl) h2
  clear hA0 hval0
  refine (walk a0 a1 a2 W hgl w0 w1 w2).mono fun e W' ⟨he, bel⟩ => ?_
  subst he
  exact ⟨_, rfl, _, _, _, [], _, [], hW', trodAll_mk1 (shut_bool Tryd.underlying4 _), (trodAll_cons_mk (shut_int Tryd.underlying3 w0) (trodAll_cons_mk (shut_int Tryd.underlying3 w1) (trodAll_cons_mk (shut_int Tryd.underlying3 w2) trodAll_mk0))), rfl, bel.frame _, fun h => by cases h⟩
theorem over : Rows.DayMonthsSaid :=
  OpenClaim.holds_of_wide 4 Tryd.f4 rfl rfl rfl rfl rfl rfl rfl ⟨rfl, rfl, rfl, rfl, rfl⟩ rfl rfl rfl rfl rfl (by kernel_rfl) Tryd.func4 (by kernel_rfl)
    (of_decide_eq_true (by kernel_rfl)) (by unfold Func.isWrapper; first | (rw [if_pos (by decide +kernel)]; kernel_rfl) | (rw [if_neg (by decide +kernel)]; exact ⟨rfl, rfl⟩))
    (fun os started H enc _ => lifted os started H enc)
theorem card : Rows.DayMonthsCardSaid :=
  Claim7.holds_tied_plain_at .later [] [.data] true (true, "cb072db7a937be4f7d8971e637cfa6319bb62ea65f99d8093b499a2c25953e45") false
    over (fun _ h => by cases h) (by kernel_rfl) (fun _ h => by cases h) dayMonths_row_tie rfl ⟨rfl, rfl⟩ (by kernel_rfl) rfl
    (fun f fn hf hfn => by
      obtain rfl : f = 4 := Option.some.inj ((show Tryd.prog.funcNamed "tallyman/tallymankeep.DayMonths" = some 4 by kernel_rfl).symm.trans hf) |>.symm
      obtain rfl : fn = Tryd.f4 := (Option.some.inj (Tryd.func4.symm.trans hfn)).symm
      exact ⟨by kernel_rfl, fun j t ht => by
        rw [Tryd.params4] at ht
        have hm : t ∈ [3, 3, 3] := by simpa using Array.mem_of_getElem? ht
        have hall : ([3, 3, 3].all fun u => !Tryd.prog.wantsStandIn u) = true := by kernel_rfl
        exact (show Tryd.prog.wantsStandIn t = false by simpa using List.all_eq_true.1 hall t hm)⟩)
    (by kernel_rfl)
end Go.Proofs.YtcgkjnnkgdlefaaDoor.dayMonths
namespace Go.Proofs.YtcgkjnnkgdlefaaDoor
theorem dayMonths_holds : Rows.DayMonthsCardSaid := dayMonths.card
end Go.Proofs.YtcgkjnnkgdlefaaDoor
#print axioms Go.Proofs.YtcgkjnnkgdlefaaDoor.dayMonths_holds
