/- The walk of tallymanref.ParsePostings. -/
import Derived.Test.YtcfgacdcgljbaaaGreatDoorRlPaM
import Derived.Test.YtcfgacdcgljbaaaGreatDoorRlText
import Derived.Test.YtcfgacdcgljbaaaGreatDoorRefParse
import Derived.ArgAppend
namespace Go.Proofs.YtcfgacdcgljbaaaGreatDoor
open Go.RowKit
theorem hidP {p : Prop} (h : p) : Hid p := h
theorem wordsB : (⟨#[32, 103, 97, 105, 110, 32, 108, 97, 116, 101, 32, 108, 111, 115, 115, 32, 115, 111, 108, 100, 32, 115, 116, 111, 99, 107, 32, 115, 117, 112, 112, 108, 121, 32]⟩ : ByteArray).data.toList = wordsL := rfl
set_option maxHeartbeats 1000000 in
theorem accC_any (t : ByteArray) (w : World) (hg : Glob w) (ht : t.size ≤ 1000) :
    Calls Tryz.prog 76 #[.string t] w fun e w' => e = .returned (.bool (accT t)) ∧ w' = w := by
  obtain ⟨m, hm⟩ := hg.ml
  have h1 := Tryz.strings_Contains t ⟨#[32]⟩ m w (by omega) hm
  have h2 := Tryz.strings_Contains ⟨#[32, 103, 97, 105, 110, 32, 108, 97, 116, 101, 32, 108, 111, 115, 115, 32, 115, 111, 108, 100, 32, 115, 116, 111, 99, 107, 32, 115, 117, 112, 112, 108, 121, 32]⟩ (⟨#[32]⟩ ++ t ++ ⟨#[32]⟩) m w (by decide) hm
  have e2 : (⟨#[32]⟩ ++ t ++ ⟨#[32]⟩ : ByteArray).data.toList = 32 :: t.data.toList ++ [32] := by simp only [ba_append]; rfl
  rw [wordsB, e2] at h2
  have e1 : (⟨#[32]⟩ : ByteArray).data.toList = [32] := rfl
  rw [e1] at h1
  have HA : Hid (accT t = (!(Lib.contains t.data.toList [32]) && (t.size != 0) && Lib.contains wordsL (32 :: t.data.toList ++ [32]))) := rfl
  generalize Lib.contains t.data.toList [32] = b1 at h1 HA
  generalize Lib.contains wordsL (32 :: t.data.toList ++ [32]) = b2 at h2 HA
  generalize accT t = b at HA
  obtain ⟨u, hu⟩ : ∃ u : ByteArray, u = ⟨#[32]⟩ ++ t ++ ⟨#[32]⟩ := ⟨_, rfl⟩
  rw [← hu] at h2
  have HU := hidP hu
  clear hu e1 e2 hm hg
  go_enter Tryz.func76, Tryz.ntmps76
  go_wp2_with fail
  refine h1.mono ?_
  rintro e w' ⟨rfl, hw⟩
  subst w'
  clear h1
  cases b1
  · by_cases hz : t.size = 0
    · have hzt : t.toList = [] := by
        rw [ByteArray.toList_eq]
        exact List.eq_nil_of_length_eq_zero (by rw [← size_ba]; exact hz)
      have hb : b = false := by have := HA.out; rw [this, hz]; simp
      subst hb
      clear HA hz h2 HU
      go_wp2
      go_ret
      exact ⟨rfl, rfl⟩
    · have hzt : ¬ t.toList = [] := by
        rw [ByteArray.toList_eq]
        intro e
        exact hz (by rw [size_ba, e]; rfl)
      have hb : b = b2 := by have := HA.out; rw [this]; simp [hz]
      subst hb
      clear HA hz
      go_wp2_with fail
      rw [← HU.out]
      refine h2.mono ?_
      rintro e w' ⟨rfl, hw⟩
      subst w'
      go_wp2
      go_ret
      exact ⟨by simp; exact fun _ => hzt, rfl⟩
  · have hb : b = false := by have := HA.out; rw [this]; simp
    subst hb
    clear HA h2 HU
    go_wp2
    go_ret
    exact ⟨rfl, rfl⟩
end Go.Proofs.YtcfgacdcgljbaaaGreatDoor
