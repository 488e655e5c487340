/- The walk of journal.Sum. -/
import Derived.Test.YtfppcecjpaefdaaDoorBase
import Derived.Test.YtfppcecjpaefdaaDoorJrM
namespace Go.Proofs.YtfppcecjpaefdaaDoor
open Go.RowKit
theorem take_snocB (s : ByteArray) (k : Nat) (h : k < s.size) : s.data.toList.take (k + 1) = s.data.toList.take k ++ [s[k]] := by
  rw [List.take_succ_eq_append_getElem (by simpa using h)]; rfl
theorem not32 (c : Nat) (h : c < 4294967296) : 4294967295 ^^^ c = 4294967295 - c := by
  have h1 : (BitVec.allOnes 32 ^^^ BitVec.ofNat 32 c).toNat = (~~~ BitVec.ofNat 32 c).toNat := by rw [BitVec.allOnes_xor]
  rw [BitVec.toNat_xor, BitVec.toNat_not, BitVec.toNat_ofNat, Nat.mod_eq_of_lt h] at h1
  exact h1
set_option maxHeartbeats 2000000 in
theorem jsum_any (s : ByteArray) (w : World) (hs : s.size ≤ 1000000) :
    Calls Tryd.prog 7 #[.string s] w fun e w' => e = .returned (.int .u32 (sumL s.data.toList : Nat)) ∧ w' = w := by
  go_enter Tryd.func7, Tryd.ntmps7
  go_wp2
  go_loop [3, 8] (fun c i => ∃ k : Nat, k ≤ s.size ∧ i = .int .i64 k ∧ c = .int .u32 (crL (s.data.toList.take k) : Nat)) (fun _ i => s.size - (intOf i).toNat)
  case atStart => exact ⟨0, Nat.zero_le _, rfl, rfl⟩
  case round =>
    obtain ⟨k, hk, rfl, rfl⟩ := hrel
    have hc := crL_lt (s.data.toList.take k)
    by_cases hlt : k < s.size
    · have HS : Hid (crL (s.data.toList.take (k + 1)) = crB (crL (s.data.toList.take k)) s[k]) := by rw [take_snocB s k hlt]; exact crL_snoc _ _
      obtain ⟨c, hcv⟩ : ∃ c, c = crL (s.data.toList.take k) := ⟨_, rfl⟩
      rw [← hcv] at hc HS ⊢
      clear hcv
      have hb := byte_lt s[k]
      have hx := u32_xor_nat c s[k].toNat hc (by omega)
      have hxl := xor_byte_lt hc s[k]
      go_wp2
      go_loop [3, 17] (fun d j => ∃ m : Nat, m ≤ 8 ∧ j = .int .i64 m ∧ d = .int .u32 (crN m (c ^^^ s[k].toNat) : Nat)) (fun _ j => 8 - (intOf j).toNat)
      case atStart => exact ⟨0, Nat.zero_le _, rfl, rfl⟩
      case round =>
        obtain ⟨m, hm, rfl, rfl⟩ := hrel
        have hd := crN_lt hxl m
        have HN : Hid (crN (m + 1) (c ^^^ s[k].toNat) = crT (crN m (c ^^^ s[k].toNat))) := rfl
        obtain ⟨d, hdv⟩ : ∃ d, d = crN m (c ^^^ s[k].toNat) := ⟨_, rfl⟩
        rw [← hdv] at hd HN ⊢
        by_cases hm8 : m < 8
        · clear hdv
          have ha : bits .and .u32 (d : Int) 1 = ((d % 2 : Nat) : Int) := by rw [show (1 : Int) = ((1 : Nat) : Int) from rfl, u32_and_nat d 1 hd (by omega), nat_mask1]
          have hx2 := u32_xor_nat (d / 2) 3988292384 (by omega) (by omega)
          by_cases ho : d % 2 = 1
          · rw [ho] at ha
            have HT : Hid (crT d = (d / 2) ^^^ 3988292384) := by show crT d = _; rw [crT, if_pos ho]
            go_wp2
            go_round
            case rel => exact ⟨m + 1, by omega, by go_num, by rw [HN.out, HT.out]; exact congrArg (Value.int .u32) hx2⟩
            case measure => simp [intOf]; omega
          · have ho' : d % 2 = 0 := by omega
            rw [ho'] at ha
            have HT : Hid (crT d = d / 2) := by show crT d = _; rw [crT, if_neg ho]
            go_wp2
            go_round
            case rel => exact ⟨m + 1, by omega, by go_num, by rw [HN.out, HT.out]; rfl⟩
            case measure => simp [intOf]; omega
        · obtain rfl : m = 8 := by omega
          have HB : Hid (d = crB c s[k]) := hdv
          clear hdv HN
          go_wp2
          go_round
          case rel => exact ⟨k + 1, by omega, by go_num, by rw [HS.out, HB.out]⟩
          case measure => simp [intOf]; omega
    · have ht : s.data.toList.take k = s.data.toList := List.take_of_length_le (by simp; omega)
      rw [ht] at hc ⊢
      have HR : Hid (sumL s.data.toList = 4294967295 - crL s.data.toList) := rfl
      clear ht
      obtain ⟨c, hcv⟩ : ∃ c, c = crL s.data.toList := ⟨_, rfl⟩
      rw [← hcv] at hc HR ⊢
      clear hcv
      have HN : Hid (bits .xor .u32 (IntKind.u32.max) (c : Int) = ((4294967295 - c : Nat) : Int)) := by
        show bits .xor .u32 (IntKind.u32.max) (c : Int) = _
        rw [show IntKind.u32.max = ((4294967295 : Nat) : Int) from by kernel_rfl, u32_xor_nat _ _ (by omega) hc, not32 c hc]
      go_wp2
      go_ret
      exact ⟨by rw [HR.out, ← HN.out]; rfl, rfl⟩
end Go.Proofs.YtfppcecjpaefdaaDoor
