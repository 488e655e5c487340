/- The walk of tallymankeep.dated: it is so. -/
import Derived.Test.YtcgkjnnkgdlefaaDoorDayParse
import Derived.Test.YtcgkjnnkgdlefaaDoorMoneyPick
namespace Go.Proofs.YtcgkjnnkgdlefaaDoor
open Go.RowKit
set_option maxHeartbeats 2000000 in
theorem dated_any (w : World) (hl : LenTab w) :
    Calls Tryd.prog 5 #[] w fun e w' => e = .returned (.bool true) ∧ Below w.heap.size w w' := by
  have HL : Hid (LenTab w) := hl
  have h1 : Hid (∀ v, LenTab v → Calls Tryd.prog 12 #[.int .i64 36583] v fun e w' => e = .returned (.tuple #[.int .i64 1201, .nilIface]) ∧ w' = v) := by
    intro v hv
    have := dmonth_ok 36583 v hv (by omega) (by omega)
    rw [dK_36583.1] at this
    exact this
  clear hl
  go_enter Tryd.func5, Tryd.ntmps5
  go_wp2_with fail
  refine (dparse_ok ⟨#[50, 48, 48, 48, 45, 48, 50, 45, 50, 57]⟩ 36583 _ HL.out dparsed_2000).mono ?_
  rintro e w1 ⟨rfl, hb1⟩
  have HL1 : Hid (LenTab w1) := HL.out.below hb1
  go_wp2_with fail
  refine (dparse_bad ⟨#[49, 57, 48, 48, 45, 48, 50, 45, 50, 57]⟩ _ HL1.out (by unfold maxLen; decide) dparsed_1900).mono ?_
  rintro e w2 ⟨rfl, hb2⟩
  have HL2 : Hid (LenTab w2) := HL1.out.below hb2
  clear HL HL1
  go_wp2_with fail
  refine (h1.out _ HL2.out).mono ?_
  rintro e w' ⟨rfl, hw⟩
  subst w'
  clear h1 HL2
  go_wp2
  go_ret
  exact ⟨rfl, hb1.trans (hb2.mono hb1.size)⟩
end Go.Proofs.YtcgkjnnkgdlefaaDoor
