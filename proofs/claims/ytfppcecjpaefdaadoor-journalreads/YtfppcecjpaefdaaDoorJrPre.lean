/- The walks of strings.HasPrefix and journal.lineAhead. -/
import Derived.Test.YtfppcecjpaefdaaDoorJrFrame
namespace Go.Proofs.YtfppcecjpaefdaaDoor
open Go.RowKit
theorem ext_data (x : ByteArray) (a b : Nat) : (x.extract a b).data.toList = (x.data.toList.take b).drop a := by
  rw [ByteArray.data_extract, Array.toList_extract, List.extract_eq_take_drop, List.drop_take]
theorem eqlB_iff (a b : ByteArray) : (a.toList == b.toList) = decide (a.data.toList = b.data.toList) := by
  rw [ByteArray.toList_eq, ByteArray.toList_eq, Bool.eq_iff_iff]; simp
set_option maxHeartbeats 2000000 in
theorem prefix_yes (s p : ByteArray) (w : World) (h : p.data.toList <+: s.data.toList) :
    Calls Tryd.prog 18 #[.string s, .string p] w fun e w' => e = .returned (.bool true) ∧ w' = w := by
  have hl : p.size ≤ s.size := by have := h.length_le; rwa [size_data, size_data] at this
  have hq : ((s.extract 0 p.size).toList == p.toList) = true := by
    rw [eqlB_iff]; apply decide_eq_true
    rw [ext_data, List.drop_zero, ← size_data p]
    exact (List.prefix_iff_eq_take.1 h).symm
  have HI : ∀ w, Calls Tryd.prog 21 #[.string s, .string p] w fun e w' => e = .returned (.bool true) ∧ w' = w := fun w => by
    go_enter Tryd.func21, Tryd.ntmps21
    go_wp2
    go_ret
    exact ⟨rfl, rfl⟩
  go_enter Tryd.func18, Tryd.ntmps18
  go_wp2_with fail
  refine (HI _).mono ?_; rintro e w1 ⟨rfl, rfl⟩
  go_wp2
  go_ret
  exact ⟨rfl, rfl⟩
set_option maxHeartbeats 2000000 in
theorem prefix_no (s p : ByteArray) (w : World) (h : ¬ p.data.toList <+: s.data.toList) :
    Calls Tryd.prog 18 #[.string s, .string p] w fun e w' => e = .returned (.bool false) ∧ w' = w := by
  have HI : ∀ w, Calls Tryd.prog 21 #[.string s, .string p] w fun e w' => e = .returned (.bool false) ∧ w' = w := fun w => by
    by_cases hl : p.size ≤ s.size
    · have hq : ((s.extract 0 p.size).toList == p.toList) = false := by
        rw [eqlB_iff]; apply decide_eq_false
        rw [ext_data, List.drop_zero]
        intro e
        exact h (by rw [← e]; exact List.take_prefix _ _)
      clear h
      go_enter Tryd.func21, Tryd.ntmps21
      go_wp2
      go_ret
      exact ⟨rfl, rfl⟩
    · clear h
      go_enter Tryd.func21, Tryd.ntmps21
      go_wp2
      go_ret
      exact ⟨rfl, rfl⟩
  go_enter Tryd.func18, Tryd.ntmps18
  go_wp2_with fail
  refine (HI _).mono ?_; rintro e w1 ⟨rfl, rfl⟩
  go_wp2
  go_ret
  exact ⟨rfl, rfl⟩
def byAt (s : ByteArray) (k : Nat) : Int := ((s.data.toList.getD k 0).toNat : Int)
theorem byAt_bd (s : ByteArray) (k : Nat) : 0 ≤ byAt s k ∧ byAt s k < 256 := by
  unfold byAt; have := byte_lt (s.data.toList.getD k 0); omega
theorem byAt_is (s : ByteArray) (k : Nat) (h : k < s.size) : (s[k].toNat : Int) = byAt s k := by
  unfold byAt
  rw [List.getD_eq_getElem?_getD, List.getElem?_eq_getElem (by rw [size_data]; exact h)]
  rfl
theorem byAt_q (s : ByteArray) (k : Nat) : (((s.data[k]?).getD 0).toNat : Int) = byAt s k := by
  unfold byAt
  rw [List.getD_eq_getElem?_getD, Array.getElem?_toList]
theorem wraps_i64 (n : Int) (h₀ : 0 ≤ n) (h₁ : n < 2 ^ 63) : IntKind.i64.wrap n = n := by rw [IntKind.wrap_i64]; omega
theorem or_join (i : Nat) (x y : Int) (h1 : 0 ≤ x) (h2 : x < 2 ^ i) (h3 : 0 ≤ y) (h4 : y % 2 ^ i = 0) (h5 : y < 2 ^ 63) (h6 : x < 2 ^ 63) : bits .or .i64 x y = x + y := by
  have hc : bits .or .i64 x y = bits .or .i64 y x := by simp only [bits]; rw [BitVec.or_comm]
  rw [hc, bits_join .i64 63 (by decide) wraps_i64 i y x h3 h4 h5 h1 h2 h6, Int.add_comm]
def szAt (s : ByteArray) : Nat → Int
  | 0 => 0
  | k + 1 => szAt s k + byAt s k * 256 ^ k
theorem sz4 (s : ByteArray) : szAt s 4 = (numL s.data.toList : Nat) := by
  simp [szAt, numL, byAt]; omega
def OrSteps (s : ByteArray) : Prop := bits .or .i64 (szAt s 0) (byAt s 0) = szAt s 1 ∧ bits .or .i64 (szAt s 1) (byAt s 1 * 256) = szAt s 2 ∧ bits .or .i64 (szAt s 2) (byAt s 2 * 65536) = szAt s 3 ∧ bits .or .i64 (szAt s 3) (byAt s 3 * 16777216) = szAt s 4
theorem or_steps (s : ByteArray) : OrSteps s := by
  have b0 := byAt_bd s 0
  have b1 := byAt_bd s 1
  have b2 := byAt_bd s 2
  have b3 := byAt_bd s 3
  have e1 : szAt s 1 = szAt s 0 + byAt s 0 := by simp [szAt]
  have e2 : szAt s 2 = szAt s 1 + byAt s 1 * 256 := by simp [szAt]
  have e3 : szAt s 3 = szAt s 2 + byAt s 2 * 65536 := by simp [szAt]
  have e4 : szAt s 4 = szAt s 3 + byAt s 3 * 16777216 := by simp [szAt]
  have e0 : szAt s 0 = 0 := rfl
  refine ⟨?_, ?_, ?_, ?_⟩
  · rw [e1]; exact or_join 0 _ _ (by omega) (by omega) (by omega) (by omega) (by omega) (by omega)
  · rw [e2]; exact or_join 8 _ _ (by omega) (by omega) (by omega) (by omega) (by omega) (by omega)
  · rw [e3]; exact or_join 16 _ _ (by omega) (by omega) (by omega) (by omega) (by omega) (by omega)
  · rw [e4]; exact or_join 24 _ _ (by omega) (by omega) (by omega) (by omega) (by omega) (by omega)
set_option maxHeartbeats 2000000 in
theorem ahead_some (s : ByteArray) (w : World) (hs : s.size ≤ 1000000) (h : 12 + numL s.data.toList ≤ s.size) :
    Calls Tryd.prog 17 #[.string s] w fun e w' => e = .returned (.tuple #[.string (ba ((s.data.toList.drop 12).take (numL s.data.toList))), .bool true]) ∧ w' = w := by
  have b0 := byAt_bd s 0
  have b1 := byAt_bd s 1
  have b2 := byAt_bd s 2
  have b3 := byAt_bd s 3
  have HJ : Hid (OrSteps s) := or_steps s
  go_enter Tryd.func17, Tryd.ntmps17
  go_wp2
  go_loop [4, 9] (fun c i => ∃ k : Nat, k ≤ 4 ∧ i = .int .i64 k ∧ c = .int .i64 (szAt s k)) (fun _ i => 4 - (intOf i).toNat)
  case atStart => exact ⟨0, Nat.zero_le _, rfl, rfl⟩
  case round =>
    obtain ⟨k, hk, rfl, rfl⟩ := hrel
    obtain rfl | rfl | rfl | rfl | rfl : k = 0 ∨ k = 1 ∨ k = 2 ∨ k = 3 ∨ k = 4 := by omega
    · have e := byAt_is s 0 (by omega)
      have e' := byAt_q s 0
      go_wp2
      exact ⟨⟨1, by omega, rfl, by rw [HJ.out.1]⟩, by simp [intOf]⟩
    · have e := byAt_is s 1 (by omega)
      go_wp2
      exact ⟨⟨2, by omega, rfl, by rw [HJ.out.2.1]⟩, by simp [intOf]⟩
    · have e := byAt_is s 2 (by omega)
      go_wp2
      exact ⟨⟨3, by omega, rfl, by rw [HJ.out.2.2.1]⟩, by simp [intOf]⟩
    · have e := byAt_is s 3 (by omega)
      go_wp2
      exact ⟨⟨4, by omega, rfl, by rw [HJ.out.2.2.2]⟩, by simp [intOf]⟩
    · have e := sz4 s
      have hx : s.extract 12 (12 + numL s.data.toList) = ba ((s.data.toList.drop 12).take (numL s.data.toList)) := by
        rw [← ba_of (s.extract 12 _), ext_data, List.drop_take, Nat.add_sub_cancel_left]
      go_wp2
      go_ret2
      exact ⟨rfl, rfl⟩
set_option maxHeartbeats 2000000 in
theorem ahead_none (s : ByteArray) (w : World) (hs : s.size ≤ 1000000) (h : s.size < 12 + numL s.data.toList) :
    Calls Tryd.prog 17 #[.string s] w fun e w' => e = .returned (.tuple #[.string (ba []), .bool false]) ∧ w' = w := by
  by_cases h12 : s.size < 12
  · go_enter Tryd.func17, Tryd.ntmps17
    go_wp2
    go_ret2
    exact ⟨rfl, rfl⟩
  · have b0 := byAt_bd s 0
    have b1 := byAt_bd s 1
    have b2 := byAt_bd s 2
    have b3 := byAt_bd s 3
    have HJ : Hid (OrSteps s) := or_steps s
    go_enter Tryd.func17, Tryd.ntmps17
    go_wp2
    go_loop [4, 9] (fun c i => ∃ k : Nat, k ≤ 4 ∧ i = .int .i64 k ∧ c = .int .i64 (szAt s k)) (fun _ i => 4 - (intOf i).toNat)
    case atStart => exact ⟨0, Nat.zero_le _, rfl, rfl⟩
    case round =>
      obtain ⟨k, hk, rfl, rfl⟩ := hrel
      obtain rfl | rfl | rfl | rfl | rfl : k = 0 ∨ k = 1 ∨ k = 2 ∨ k = 3 ∨ k = 4 := by omega
      · have e := byAt_is s 0 (by omega)
        have e' := byAt_q s 0
        go_wp2
        exact ⟨⟨1, by omega, rfl, by rw [HJ.out.1]⟩, by simp [intOf]⟩
      · have e := byAt_is s 1 (by omega)
        go_wp2
        exact ⟨⟨2, by omega, rfl, by rw [HJ.out.2.1]⟩, by simp [intOf]⟩
      · have e := byAt_is s 2 (by omega)
        go_wp2
        exact ⟨⟨3, by omega, rfl, by rw [HJ.out.2.2.1]⟩, by simp [intOf]⟩
      · have e := byAt_is s 3 (by omega)
        go_wp2
        exact ⟨⟨4, by omega, rfl, by rw [HJ.out.2.2.2]⟩, by simp [intOf]⟩
      · have e := sz4 s
        go_wp2
        go_ret2
        exact ⟨rfl, rfl⟩
end Go.Proofs.YtfppcecjpaefdaaDoor
