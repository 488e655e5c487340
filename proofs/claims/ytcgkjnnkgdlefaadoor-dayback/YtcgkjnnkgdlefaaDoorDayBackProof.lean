/- PROVED HERE: for every number and every text tallymankeep.DayBack returns true, and leaves its arguments as they were, where the package-level variable that its row lists holds what the program's text lays (the tied card Rows.DayBackCardSaid). No other condition. -/
import Derived.Test.YtcgkjnnkgdlefaaDoorDayDated
import Derived.Test.YtcgkjnnkgdlefaaDoorCards
import Derived.Test.YtcgkjnnkgdlefaaDoorTie
import Derived.ShutString
import Derived.ChangeOld
import Derived.LaidHandle
import Derived.Lay
import Derived.Lib.LaidTab
import Derived.Stop.Joined
import Derived.SevenTiedAt
import Derived.Shelf.Vars
namespace Go.Proofs.YtcgkjnnkgdlefaaDoor.dayBack
open Go.ChangeShapes Go.WideShapes Go.ChangeAt Go.RowKit
open Go.ChangeMaps (open_string shut_string)
set_option linter.unusedVariables false
set_option linter.unusedSimpArgs false
theorem own : ownKnob Tryd.prog.godebug = none := by kernel_rfl
theorem gLen : Tryd.prog.globalNamed "tallyman/day.lengths" = some 0 := by kernel_rfl
theorem lenType : (Tryd.prog.globals[0]?).map (·.type) = some 43 := by kernel_rfl
/-- What the listed variable gives the walks. -/
theorem glob_of {W : World} (h : laidMetH Tryd.prog Rows.dayBackRow.laid W) (hsh : W.ShapedOpen Tryd.prog) : LenTab W := by
  have hp : laidMet Tryd.prog [("tallyman/day.lengths", Rows.laid_tallyman_day_lengths)] W := h
  have ht := Lib.tabIs_of_head (k := .i64) (zs := [31, 28, 31, 30, 31, 30, 31, 31, 30, 31, 30, 31]) gLen lenType Tryd.underlying43 Tryd.underlying3 (by kernel_rfl) (by kernel_rfl) (show laidMet Tryd.prog (("tallyman/day.lengths", Lib.tabData .i64 [31, 28, 31, 30, 31, 30, 31, 31, 30, 31, 30, 31]) :: _) W from hp)
  intro k hk
  rw [World.var?_cell gLen ht k]
  have : k = 0 ∨ k = 1 ∨ k = 2 ∨ k = 3 ∨ k = 4 ∨ k = 5 ∨ k = 6 ∨ k = 7 ∨ k = 8 ∨ k = 9 ∨ k = 10 ∨ k = 11 := by omega
  rcases this with rfl | rfl | rfl | rfl | rfl | rfl | rfl | rfl | rfl | rfl | rfl | rfl <;> rfl
theorem parts_hid (n : Int) (h0 : 0 ≤ n) (h1 : n ≤ 99999) : Hid (∀ v, LenTab v → Calls Tryd.prog 9 #[.int .i64 n] v fun e w' => e = .returned (.tuple #[.int .i64 (ky (dK n)), .int .i64 (km (dK n)), .int .i64 (dD n), .nilIface]) ∧ w' = v) :=
  fun v hv => dparts_ok n v hv h0 h1
theorem of_hid (n : Int) (h0 : 0 ≤ n) (h1 : n ≤ 99999) : Hid (∀ v, LenTab v → Calls Tryd.prog 10 #[.int .i64 (ky (dK n)), .int .i64 (km (dK n)), .int .i64 (dD n)] v fun e w' => e = .returned (.tuple #[.int .i64 n, .nilIface]) ∧ w' = v) :=
  fun v hv => of_ok _ _ _ n v hv (ofDay_is h0 h1)
theorem year_on (y : Int) : (!y + 1 == y && decide (y + 1 - y ≤ 1)) = true := by
  have h1 : (y + 1 == y) = false := beq_eq_false_iff_ne.2 (by omega)
  have h2 : decide (y + 1 - y ≤ 1) = true := decide_eq_true (by omega)
  rw [h1, h2]; rfl
theorem DT_size (n : Int) : (strOfNums (DT n)).size = 10 := by rw [strOfNums_size]; rfl
theorem DT_data (n : Int) : (strOfNums (DT n)).data.toList = bts (DT n) := dtx_data _ _ _
theorem parse_DT (n : Int) (w : World) (hl : LenTab w) (h0 : 0 ≤ n) (h1 : n ≤ 99999) :
    Calls Tryd.prog 6 #[.string (strOfNums (DT n))] w fun e w' => e = .returned (.tuple #[.int .i64 n, .nilIface]) ∧ Below w.heap.size w w' :=
  dparse_ok _ n w hl (by rw [DT_data]; exact dparsed_DT h0 h1)
set_option maxHeartbeats 4000000 in
set_option maxRecDepth 20000 in
theorem walk (a0 : Int) (a1 : ByteArray) (w : World) (hl : LenTab w) (w0 : (Lit.int .i64 a0).wf = true) (w1 : a1.size ≤ maxLen) :
    Calls Tryd.prog 3 #[.int .i64 a0, .string a1] w fun e w' => e = .returned (.bool true) ∧ Below w.heap.size w w' := by
  clear w0
  unfold maxLen at w1
  have HL : Hid (LenTab w) := hl
  clear hl
  by_cases hlen : a1.size ≤ 100
  · have HZ : Hid (a1.size ≤ maxLen) := by show _ ≤ _; unfold maxLen; omega
    obtain ⟨x, hx⟩ : ∃ x, x = pk a0 99999 := ⟨_, rfl⟩
    have hxb := pk_bd a0 99999 (by omega)
    have P0 := fun v => pick_any a0 99999 v (by omega) (by omega)
    rw [← hx] at hxb P0
    have HP0 : Hid (∀ v, Calls Tryd.prog 8 #[.int .i64 a0, .int .i64 99999] v fun e w' => e = .returned (.int .i64 x) ∧ w' = v) := P0
    clear P0 hx
    have hx0 : 0 ≤ x := hxb.1
    have hx1 : x ≤ 99998 := by omega
    clear hxb
    have hk := dK_le hx0 (by omega : x ≤ 99999)
    have hk' := dK_le (n := x + 1) (by omega) (by omega)
    have hnext := next_day hx0
    have HQ1 := parts_hid x hx0 (by omega)
    have HQ2 := parts_hid (x + 1) (by omega) (by omega)
    have HOF := of_hid x hx0 (by omega)
    obtain ⟨y, hy⟩ : ∃ y, y = ky (dK x) := ⟨_, rfl⟩
    obtain ⟨m, hm⟩ : ∃ y, y = km (dK x) := ⟨_, rfl⟩
    obtain ⟨d, hd⟩ : ∃ y, y = dD x := ⟨_, rfl⟩
    obtain ⟨a, ha⟩ : ∃ y, y = ky (dK (x + 1)) := ⟨_, rfl⟩
    obtain ⟨b, hb⟩ : ∃ y, y = km (dK (x + 1)) := ⟨_, rfl⟩
    obtain ⟨c, hc⟩ : ∃ y, y = dD (x + 1) := ⟨_, rfl⟩
    have by1 : 1900 ≤ y ∧ y ≤ 2200 := by rw [hy]; exact ⟨ky_ge _, by unfold ky; omega⟩
    have by2 : 1900 ≤ a ∧ a ≤ 2200 := by rw [ha]; exact ⟨ky_ge _, by unfold ky; omega⟩
    have bm1 : 1 ≤ m ∧ m ≤ 12 := by rw [hm]; exact km_bd _
    have bm2 : 1 ≤ b ∧ b ≤ 12 := by rw [hb]; exact km_bd _
    have bd1 : 1 ≤ d ∧ d ≤ 31 := by rw [hd]; exact dD_bd hx0
    have bd2 : 1 ≤ c ∧ c ≤ 31 := by rw [hc]; exact dD_bd (by omega)
    rw [← hy, ← hm, ← hd] at HQ1 HOF hnext
    rw [← ha, ← hb, ← hc] at HQ2 hnext
    clear hy hm hd ha hb hc hk hk'
    rcases hp : dparsed a1.data.toList with _ | z
    · have HB : Hid (dparsed a1.data.toList = none) := hp
      clear hp
      go_enter Tryd.func3, Tryd.ntmps3
      go_wp2_with fail
      refine (dated_any _ HL.out).mono ?_
      rintro e w1 ⟨rfl, hb1'⟩
      have HL1' : Hid (LenTab w1) := HL.out.below hb1'
      clear HL
      go_wp2_with fail
      refine (dparse_bad a1 _ HL1'.out HZ.out HB.out).mono ?_
      rintro e w2 ⟨rfl, hb2⟩
      have HL1 : Hid (LenTab w2) := HL1'.out.below hb2
      have hb1 := hb1'.trans (hb2.mono hb1'.size)
      clear HL1' hb1' hb2 HB HZ
      go_wp2_with fail
      refine (HP0.out _).mono ?_
      rintro e w' ⟨rfl, hw⟩
      subst w'
      clear HP0
      go_wp2_with fail
      refine (HQ1.out _ HL1.out).mono ?_
      rintro e w' ⟨rfl, hw⟩
      subst w'
      clear HQ1
      go_wp2_with fail
      refine (HQ2.out _ HL1.out).mono ?_
      rintro e w' ⟨rfl, hw⟩
      subst w'
      clear HQ2
      go_wp2_with fail
      refine (HOF.out _ HL1.out).mono ?_
      rintro e w' ⟨rfl, hw⟩
      subst w'
      clear HOF
      go_wp2_with fail
      refine (dprint_ok x _ HL1.out hx0 (by omega)).mono ?_
      rintro e w3 ⟨rfl, hb3⟩
      have HL3 : Hid (LenTab w3) := HL1.out.below hb3
      have h13 := hb1.trans (hb3.mono hb1.size)
      clear HL1 hb1 hb3
      go_wp2_with fail
      refine (parse_DT x _ HL3.out hx0 (by omega)).mono ?_
      rintro e w4 ⟨rfl, hb4⟩
      have h14 := h13.trans (hb4.mono h13.size)
      clear HL3 h13 hb4
      have hz := DT_size x
      rcases hnext with ⟨n1, n2, n3⟩ | ⟨n1, n2, n3, ⟨n4, n5⟩ | ⟨n4, n5⟩⟩
      · subst a b c
        go_wp2
        go_ret
        exact ⟨rfl, h14⟩
      · subst a b c
        go_wp2
        go_ret
        exact ⟨rfl, h14⟩
      · subst a m c
        subst b
        go_wp2
        go_ret
        exact ⟨dret_bool (year_on y), h14⟩
    · have HB : Hid (dparsed a1.data.toList = some z) := hp
      obtain ⟨_, z0, z1, z2, _⟩ := dparsed_some hp
      have hcmp : ((strOfNums (DT z)).toList == a1.toList) = true := by
        rw [ByteArray.toList_eq, ByteArray.toList_eq, DT_data]
        exact beq_iff_eq.2 z2
      clear hp z2
      go_enter Tryd.func3, Tryd.ntmps3
      go_wp2_with fail
      refine (dated_any _ HL.out).mono ?_
      rintro e w1 ⟨rfl, hb1'⟩
      have HL1' : Hid (LenTab w1) := HL.out.below hb1'
      clear HL
      go_wp2_with fail
      refine (dparse_ok a1 z _ HL1'.out HB.out).mono ?_
      rintro e w2 ⟨rfl, hb2⟩
      have HL2' : Hid (LenTab w2) := HL1'.out.below hb2
      have hb2' := hb1'.trans (hb2.mono hb1'.size)
      clear HL1' hb1' hb2 HB HZ
      go_wp2_with fail
      refine (dprint_ok z _ HL2'.out z0 z1).mono ?_
      rintro e w6 ⟨rfl, hb6⟩
      have HL1 : Hid (LenTab w6) := HL2'.out.below hb6
      have hb1 := hb2'.trans (hb6.mono hb2'.size)
      clear HL2' hb2' hb6
      go_wp2_with fail
      refine (HP0.out _).mono ?_
      rintro e w' ⟨rfl, hw⟩
      subst w'
      clear HP0
      go_wp2_with fail
      refine (HQ1.out _ HL1.out).mono ?_
      rintro e w' ⟨rfl, hw⟩
      subst w'
      clear HQ1
      go_wp2_with fail
      refine (HQ2.out _ HL1.out).mono ?_
      rintro e w' ⟨rfl, hw⟩
      subst w'
      clear HQ2
      go_wp2_with fail
      refine (HOF.out _ HL1.out).mono ?_
      rintro e w' ⟨rfl, hw⟩
      subst w'
      clear HOF
      go_wp2_with fail
      refine (dprint_ok x _ HL1.out hx0 (by omega)).mono ?_
      rintro e w3 ⟨rfl, hb3⟩
      have HL3 : Hid (LenTab w3) := HL1.out.below hb3
      have h13 := hb1.trans (hb3.mono hb1.size)
      clear HL1 hb1 hb3
      go_wp2_with fail
      refine (parse_DT x _ HL3.out hx0 (by omega)).mono ?_
      rintro e w4 ⟨rfl, hb4⟩
      have h14 := h13.trans (hb4.mono h13.size)
      clear HL3 h13 hb4
      have hz := DT_size x
      rcases hnext with ⟨n1, n2, n3⟩ | ⟨n1, n2, n3, ⟨n4, n5⟩ | ⟨n4, n5⟩⟩
      · subst a b c
        go_wp2
        go_ret
        exact ⟨rfl, h14⟩
      · subst a b c
        go_wp2
        go_ret
        exact ⟨rfl, h14⟩
      · subst a m c
        subst b
        go_wp2
        go_ret
        exact ⟨dret_bool (year_on y), h14⟩
  · go_enter Tryd.func3, Tryd.ntmps3
    go_wp2
    go_ret
    exact ⟨rfl, Below.refl _ _⟩
set_option maxRecDepth 100000 in
theorem start_met (os : Os) (args : Array Value) : laidMetH Tryd.prog Rows.dayBackRow.laid (((World.holding Tryd.prog os ⟨#[], #[], []⟩).layVars Tryd.prog [("tallyman/day.lengths", Rows.laid_tallyman_day_lengths)]).forCall (fun _ _ => 0) ⟨#[], args, []⟩).memory := by
  have h : laidMet Tryd.prog [("tallyman/day.lengths", Rows.laid_tallyman_day_lengths)] ((World.holding Tryd.prog os ⟨#[], #[], []⟩).layVars Tryd.prog [("tallyman/day.lengths", Rows.laid_tallyman_day_lengths)]) :=
    laidMet_layVars (w0 := (World.holding Tryd.prog os ⟨#[], #[], []⟩)) ["tallyman/day.lengths"] [] (by kernel_rfl) (by kernel_rfl) (by kernel_rfl) LaidIn.none
  exact laidMetH_of_parts (h.of_heap (by simp [World.memory, World.forCall, Input.heap])) (by kernel_rfl)
set_option maxRecDepth 100000 in
theorem lifted (os : Os) (started : os.Started) (H : Type) (enc : TypeId × Value → H) :
    ReturnsInHanded {} Tryd.checked os 3 .any (fun w args => (Rows.dayBackSpec.pre enc Tryd.prog Tryd.f3 Rows.dayBackRow.domain false w args ∧ laidMetH Tryd.prog Rows.dayBackRow.laid w) ∧ sizedMet enc Tryd.prog Tryd.f3 (OpenSpec.ofChange Rows.dayBackSpec) false w args)
      (Rows.dayBackSpec.post enc Tryd.prog Tryd.f3 false true false false) := by
  refine returnsInHanded_of_calls (C := Tryd.checked) own started (by kernel_rfl)
    (ChangeSpec.witness_shaped (enc := enc) (C := Tryd.checked) (os := os) (X := fun w _ => laidMetH Tryd.prog Rows.dayBackRow.laid w) false ((World.holding Tryd.prog os ⟨#[], #[], []⟩).layVars Tryd.prog [("tallyman/day.lengths", Rows.laid_tallyman_day_lengths)]) #[.int .i64 0, .string ByteArray.empty] 8 (World.layVars_os _ _ _)
      (World.shaped_of_ZipB (by kernel_rfl) (by kernel_rfl)) (by kernel_rfl) (by kernel_rfl) (by kernel_rfl) (start_met os _)) ?_
  intro w tape i _ hsh _ hok hpre _
  obtain ⟨_, _, _, fn', hfn', _, _, _, _, hval0⟩ := hok
  obtain rfl : fn' = Tryd.f3 := Option.some.inj (hfn'.symm.trans Tryd.func3)
  obtain ⟨⟨⟨ds, gs, before, hw, _⟩, hL0⟩, _⟩ := hpre
  have hW := DataW.Whole.of_heap (w' := w.forCall tape i) (by rfl) hw
  have hL : laidMetH Tryd.prog Rows.dayBackRow.laid (w.forCall tape i) := hL0.of_heap (by rfl)
  clear hw hL0
  suffices hs : Calls Tryd.prog 3 i.args (w.forCall tape i) fun e W' => ∃ v, e = .returned v ∧ Rows.dayBackSpec.post enc Tryd.prog Tryd.f3 false true false false (w.forCall tape i) i.args v W' from
    hs.mono fun e W' ⟨v, he, hp⟩ => by subst he; exact ChangeSpec.post_blind hp
  generalize i.args = args at *
  generalize w.forCall tape i = W at *
  have hgl := glob_of hL hsh
  have hval : ∀ (j : Nat) t v, Tryd.f3.params[j]? = some t → args[j]? = some v → Value.okWide Tryd.prog W .any w.heap.size t v := hval0
  have hW' := hW
  obtain ⟨p, q, hA0, hV, rfl, hfz, hnd⟩ := hW
  have hA : DataW.TrodAll enc Tryd.prog W 0 (fun _ => true) true Tryd.f3.params.toList args.toList ds p := hA0
  rw [Tryd.params3] at hA hval
  obtain ⟨v0, vs0, d0, ds0, p0, q0, hargs, rfl, rfl, h0, r0⟩ := trodAll_cons hA
  obtain ⟨v1, vs1, d1, ds1, p1, q1, rfl, rfl, rfl, h1, r1⟩ := trodAll_cons r0
  obtain ⟨rfl, rfl, rfl⟩ := trodAll_nil r1
  obtain rfl : args = #[v0, v1] := by cases args; simp_all
  obtain ⟨rfl, rfl⟩ := trodVars_none hV
  obtain ⟨a0, rfl, rfl, rfl, w0⟩ := open_int Tryd.underlying3 (hval 0 3 v0 rfl rfl) h0
  obtain ⟨a1, rfl, rfl, rfl, w1⟩ := open_string Tryd.underlying9 (hval 1 9 v1 rfl rfl) h1
  clear hA0 hval0
  refine (walk a0 a1 W hgl w0 w1).mono fun e W' ⟨he, bel⟩ => ?_
  subst he
  exact ⟨_, rfl, _, _, _, [], _, [], hW', trodAll_mk1 (shut_bool Tryd.underlying4 _), (trodAll_cons_mk (shut_int Tryd.underlying3 w0) (trodAll_cons_mk (shut_string Tryd.underlying9 w1) trodAll_mk0)), rfl, bel.frame _, fun h => by cases h⟩
theorem over : Rows.DayBackSaid :=
  OpenClaim.holds_of_wide 3 Tryd.f3 rfl rfl rfl rfl rfl rfl rfl ⟨rfl, rfl, rfl, rfl, rfl⟩ rfl rfl rfl rfl rfl (by kernel_rfl) Tryd.func3 (by kernel_rfl)
    (of_decide_eq_true (by kernel_rfl)) (by unfold Func.isWrapper; first | (rw [if_pos (by decide +kernel)]; kernel_rfl) | (rw [if_neg (by decide +kernel)]; exact ⟨rfl, rfl⟩))
    (fun os started H enc _ => lifted os started H enc)
theorem card : Rows.DayBackCardSaid :=
  Claim7.holds_tied_plain_at .later [] [.data] true (true, "cb072db7a937be4f7d8971e637cfa6319bb62ea65f99d8093b499a2c25953e45") false
    over (fun _ h => by cases h) (by kernel_rfl) (fun _ h => by cases h) dayBack_row_tie rfl ⟨rfl, rfl⟩ (by kernel_rfl) rfl
    (fun f fn hf hfn => by
      obtain rfl : f = 3 := Option.some.inj ((show Tryd.prog.funcNamed "tallyman/tallymankeep.DayBack" = some 3 by kernel_rfl).symm.trans hf) |>.symm
      obtain rfl : fn = Tryd.f3 := (Option.some.inj (Tryd.func3.symm.trans hfn)).symm
      exact ⟨by kernel_rfl, fun j t ht => by
        rw [Tryd.params3] at ht
        have hm : t ∈ [3, 9] := by simpa using Array.mem_of_getElem? ht
        have hall : ([3, 9].all fun u => !Tryd.prog.wantsStandIn u) = true := by kernel_rfl
        exact (show Tryd.prog.wantsStandIn t = false by simpa using List.all_eq_true.1 hall t hm)⟩)
    (by kernel_rfl)
end Go.Proofs.YtcgkjnnkgdlefaaDoor.dayBack
namespace Go.Proofs.YtcgkjnnkgdlefaaDoor
theorem dayBack_holds : Rows.DayBackCardSaid := dayBack.card
end Go.Proofs.YtcgkjnnkgdlefaaDoor
#print axioms Go.Proofs.YtcgkjnnkgdlefaaDoor.dayBack_holds
