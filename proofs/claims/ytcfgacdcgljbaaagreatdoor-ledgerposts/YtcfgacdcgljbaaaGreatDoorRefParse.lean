/- The walk of tallymanref.ParseAmount: it reads just what money.Parse reads. -/
import Derived.Test.YtcfgacdcgljbaaaGreatDoorBnF
import Derived.Test.YtcfgacdcgljbaaaGreatDoorRefReadMath
import Derived.Lib.SmallJoins
namespace Go.Proofs.YtcfgacdcgljbaaaGreatDoor
open Go.RowKit
theorem str_data (l : List UInt8) : (⟨l.toArray⟩ : ByteArray).data.toList = l := rfl
theorem replace_any (s : ByteArray) (w : World) (hg : Glob w) (hs : s.size ≤ 1000) :
    Calls Tryz.prog 127 #[.string s, .string ⟨#[46]⟩, .string ⟨#[]⟩, .int .i64 1] w fun e w' => e = .returned (.string ⟨(Lib.replace s.data.toList [46] [] 1).toArray⟩) ∧ Below w.heap.size w w' := by
  obtain ⟨m, hm⟩ := hg.ml
  exact Tryz.strings_Replace s ⟨#[46]⟩ ⟨#[]⟩ 1 m w (by omega) hm (by decide) (by show s.size + _ * 0 ≤ _; omega)
theorem rk_len : ∀ (k : Nat) (s : List UInt8), (Lib.replaceK [46] [] k s).length ≤ s.length
  | 0, s => Nat.le_refl _
  | k + 1, s => by
    unfold Lib.replaceK
    split
    · exact Nat.le_refl _
    · have := rk_len k (s.drop ((Lib.index s [46]).toNat + [46].length))
      rw [List.length_drop] at this
      simp only [List.length_append, List.length_take, List.length_nil, List.length_cons] at *
      omega
theorem replace_len (s : List UInt8) : (Lib.replace s [46] [] 1).length ≤ s.length := by
  unfold Lib.replace; split
  · exact Nat.le_refl _
  · exact rk_len _ _
set_option maxHeartbeats 2000000 in
theorem refParse_ok (s : ByteArray) (n : Int) (w : World) (hg : Glob w) (h : parsed s.data.toList = some n) :
    Calls Tryz.prog 78 #[.string s] w fun e w' => e = .returned (.tuple #[.int .i64 n, .int .i64 0]) ∧ Below w.heap.size w w' := by
  obtain ⟨p1, p2, p3, p4, p5⟩ := parsed_some h
  have hz : s.size ≤ 15 := by rw [← ba_len]; exact p1
  have HG : Hid (Glob w) := hg
  have hcmp : (byt (amt n) == s.toList) = true := by
    rw [ByteArray.toList_eq, p4]; simp
  obtain ⟨r, hr⟩ : ∃ r : ByteArray, r = ⟨(Lib.replace s.data.toList [46] [] 1).toArray⟩ := ⟨_, rfl⟩
  have HR : Hid (r = ⟨(Lib.replace s.data.toList [46] [] 1).toArray⟩) := hr
  have HA : Hid (Lib.atoiAll r.data.toList = .ok n) := by
    show _ = _; rw [hr, str_data, ← p4]; exact atoi_amt n p2 p3
  have hrs : r.size ≤ 1000 := by
    have := replace_len s.data.toList
    rw [← ba_len, hr, str_data]; rw [ba_len] at this; omega
  clear hg h p1 p4 p5 hr
  go_enter Tryz.func78, Tryz.ntmps78
  go_wp2_with fail
  refine (replace_any s _ HG.out (by omega)).mono ?_
  rintro e w1 ⟨rfl, hb1⟩
  rw [← HR.out]
  have HG1 : Hid (Glob w1) := HG.out.below hb1
  clear HG HR
  go_wp2_with fail
  refine (atoi_any r _ HG1.out (by omega)).mono ?_
  rintro e w2 ⟨⟨v, hv, rfl⟩ | ⟨x, tq, q, hno, _⟩, hb2⟩
  rotate_left
  · exact absurd HA.out (hno n)
  obtain rfl : v = n := by rw [HA.out] at hv; cases hv; rfl
  have hb12 := hb1.trans (hb2.mono hb1.size)
  have HG2 : Hid (Glob w2) := HG1.out.below hb2
  clear hv HA HG1 hb1 hb2
  go_wp2_with (go_at_call 45; refine (in_yes _ _ _ _ (by omega) (by omega)).mono ?_; rintro e w' ⟨rfl, hw⟩; subst w')
  refine (amount_any v _ HG2.out (by omega) (by omega)).mono ?_
  rintro e w3 ⟨rfl, hb3⟩
  clear HG2
  go_wp2
  go_ret2
  exact ⟨rfl, hb12.trans (hb3.mono hb12.size)⟩
set_option maxHeartbeats 2000000 in
theorem refParse_bad (s : ByteArray) (w : World) (hg : Glob w) (hs : s.size ≤ 1000) (h : parsed s.data.toList = none) :
    Calls Tryz.prog 78 #[.string s] w fun e w' => e = .returned (.tuple #[.int .i64 0, .int .i64 3]) ∧ Below w.heap.size w w' := by
  have HG : Hid (Glob w) := hg
  have HN : Hid (parsed s.data.toList = none) := h
  obtain ⟨r, hr⟩ : ∃ r : ByteArray, r = ⟨(Lib.replace s.data.toList [46] [] 1).toArray⟩ := ⟨_, rfl⟩
  have HR : Hid (r = ⟨(Lib.replace s.data.toList [46] [] 1).toArray⟩) := hr
  have hrs : r.size ≤ 1000 := by
    have := replace_len s.data.toList
    rw [← ba_len, hr, str_data]; rw [ba_len] at this; omega
  clear hg h hr
  go_enter Tryz.func78, Tryz.ntmps78
  go_wp2_with fail
  refine (replace_any s _ HG.out (by omega)).mono ?_
  rintro e w1 ⟨rfl, hb1⟩
  rw [← HR.out]
  have HG1 : Hid (Glob w1) := HG.out.below hb1
  clear HG HR
  go_wp2_with fail
  refine (atoi_any r _ HG1.out (by omega)).mono ?_
  rintro e w2 ⟨⟨v, hv, rfl⟩ | ⟨x, tq, q, hno, rfl⟩, hb2⟩
  · have hb12 := hb1.trans (hb2.mono hb1.size)
    have HG2 : Hid (Glob w2) := HG1.out.below hb2
    clear hv HG1 hb1 hb2
    by_cases hin : -1000000000000 ≤ v ∧ v ≤ 1000000000000
    · have hcmp : (byt (amt v) == s.toList) = false := by
        rw [ByteArray.toList_eq]
        apply Bool.eq_false_iff.2
        intro e
        have h2 := parsed_amt v hin.1 hin.2
        rw [eq_of_beq e, HN.out] at h2; cases h2
      clear HN
      go_wp2_with (go_at_call 45; refine (in_yes _ _ _ _ (by omega) (by omega)).mono ?_; rintro e w' ⟨rfl, hw⟩; subst w')
      refine (amount_any v _ HG2.out (by omega) (by omega)).mono ?_
      rintro e w3 ⟨rfl, hb3⟩
      clear HG2
      go_wp2
      go_ret2
      exact ⟨rfl, hb12.trans (hb3.mono hb12.size)⟩
    · clear HN HG2
      go_wp2_with (go_at_call 45; refine (in_no _ _ _ _ (by omega)).mono ?_; rintro e w' ⟨rfl, hw⟩; subst w')
      go_ret2
      exact ⟨rfl, hb12⟩
  · have hb12 := hb1.trans (hb2.mono hb1.size)
    clear hno HN HG1 hb1 hb2
    go_wp2
    go_ret2
    exact ⟨rfl, hb12⟩
end Go.Proofs.YtcfgacdcgljbaaaGreatDoor
