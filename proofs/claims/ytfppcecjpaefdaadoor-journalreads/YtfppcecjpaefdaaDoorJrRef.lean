/- The walks of tallymanref.Sum, four, Frame. -/
import Derived.Test.YtfppcecjpaefdaaDoorJrFrame
namespace Go.Proofs.YtfppcecjpaefdaaDoor
open Go.RowKit
set_option maxHeartbeats 4000000 in
theorem rsum_any (s : ByteArray) (w : World) (hs : s.size ≤ 1000000) :
    Calls Tryd.prog 8 #[.string s] w fun e w' => e = .returned (.int .u32 (sumL s.data.toList : Nat)) ∧ w' = w := by
  go_enter Tryd.func8, Tryd.ntmps8
  go_wp2
  go_loop [3, 10] (fun c i => ∃ k : Nat, k ≤ s.size ∧ i = .int .i64 k ∧ c = .int .u32 (crL (s.data.toList.take k) : Nat)) (fun _ i => s.size - (intOf i).toNat)
  case atStart => exact ⟨0, Nat.zero_le _, rfl, rfl⟩
  case round =>
    obtain ⟨k, hk, rfl, rfl⟩ := hrel
    have hc := crL_lt (s.data.toList.take k)
    by_cases hlt : k < s.size
    · have HS : Hid (crL (s.data.toList.take (k + 1)) = crB (crL (s.data.toList.take k)) s[k]) := by rw [take_snocB s k hlt]; exact crL_snoc _ _
      obtain ⟨c, hcv⟩ : ∃ c, c = crL (s.data.toList.take k) := ⟨_, rfl⟩
      rw [← hcv] at hc HS ⊢
      clear hcv
      have hb := byte_lt s[k]
      go_wp2
      go_loop [3, 13] (fun d j => ∃ m : Nat, m ≤ 8 ∧ j = .int .i64 m ∧ d = .int .u32 (rfN c s[k] m : Nat)) (fun _ j => 8 - (intOf j).toNat)
      case atStart => exact ⟨0, Nat.zero_le _, rfl, rfl⟩
      case round =>
        obtain ⟨m, hm, rfl, rfl⟩ := hrel
        have hd := rfN_lt hc s[k] m
        have HN : Hid (rfN c s[k] (m + 1) = rfT (rfN c s[k] m) s[k] m) := rfl
        obtain ⟨d, hdv⟩ : ∃ d, d = rfN c s[k] m := ⟨_, rfl⟩
        rw [← hdv] at hd HN ⊢
        by_cases hm8 : m < 8
        · clear hdv
          have hql : s[k].toNat / 2 ^ m ≤ s[k].toNat := Nat.div_le_self _ _
          have hcast : ((s[k].toNat : Int) / 2 ^ m) = ((s[k].toNat / 2 ^ m : Nat) : Int) := by simp
          have a1 : bits .and .u32 ((s[k].toNat : Int) / 2 ^ m) 1 = ((s[k].toNat / 2 ^ m % 2 : Nat) : Int) := by
            rw [hcast, show (1 : Int) = ((1 : Nat) : Int) from rfl, u32_and_nat _ 1 (by omega) (by omega), nat_mask1]
          have HT : Hid (rfT d s[k] m = if (d ^^^ (s[k].toNat / 2 ^ m % 2)) % 2 = 1 then (d / 2) ^^^ 3988292384 else d / 2) := rfl
          obtain ⟨q, hq⟩ : ∃ q, q = s[k].toNat / 2 ^ m % 2 := ⟨_, rfl⟩
          have hq2 : q < 2 := by omega
          rw [← hq] at a1 HT
          have a2 := u32_xor_nat d q hd (by omega)
          have hx : d ^^^ q < 4294967296 := Nat.xor_lt_two_pow (n := 32) hd (by omega)
          have a3 : bits .and .u32 ((d ^^^ q : Nat) : Int) 1 = ((((d ^^^ q) % 2 : Nat)) : Int) := by rw [show (1 : Int) = ((1 : Nat) : Int) from rfl, u32_and_nat _ 1 hx (by omega), nat_mask1]
          have hx2 := u32_xor_nat (d / 2) 3988292384 (by omega) (by omega)
          clear hcast hql hq
          by_cases ho : (d ^^^ q) % 2 = 1
          · rw [ho] at a3
            rw [if_pos ho] at HT
            go_wp2
            go_round
            case rel => exact ⟨m + 1, by omega, by go_num, by rw [HN.out, HT.out]; exact congrArg (Value.int .u32) hx2⟩
            case measure => simp [intOf]; omega
          · have ho' : (d ^^^ q) % 2 = 0 := by omega
            rw [ho'] at a3
            rw [if_neg ho] at HT
            go_wp2
            go_round
            case rel => exact ⟨m + 1, by omega, by go_num, by rw [HN.out, HT.out]; rfl⟩
            case measure => simp [intOf]; omega
        · obtain rfl : m = 8 := by omega
          have HB : Hid (d = crB c s[k]) := by show _ = _; rw [hdv]; exact rf_crB _ _
          clear hdv HN
          go_wp2
          go_round
          case rel => exact ⟨k + 1, by omega, by go_num, by rw [HS.out, HB.out]⟩
          case measure => simp [intOf]; omega
    · have ht : s.data.toList.take k = s.data.toList := List.take_of_length_le (by simp; omega)
      rw [ht] at hc ⊢
      have HR : Hid (sumL s.data.toList = 4294967295 - crL s.data.toList) := rfl
      clear ht
      obtain ⟨c, hcv⟩ : ∃ c, c = crL s.data.toList := ⟨_, rfl⟩
      rw [← hcv] at hc HR ⊢
      clear hcv
      have HN : Hid ((4294967295 : Int) - (c : Int) = ((4294967295 - c : Nat) : Int)) := by show _ = _; omega
      go_wp2
      go_ret
      exact ⟨by rw [HR.out, ← HN.out]; rfl, rfl⟩
/-- What stands when k bytes are written. -/
def fourK (n k : Nat) : List UInt8 := (fourL n).take k
theorem fourK_step (n k : Nat) (h : k < 4) : fourK n (k + 1) = fourK n k ++ [(n / 256 ^ k % 256).toUInt8] := by
  unfold fourK
  rw [List.take_succ_eq_append_getElem (by rw [four_len]; exact h)]
  obtain rfl | rfl | rfl | rfl : k = 0 ∨ k = 1 ∨ k = 2 ∨ k = 3 := by omega
  all_goals simp [fourL]
set_option maxRecDepth 20000 in
set_option maxHeartbeats 4000000 in
theorem rfour_any (n : Nat) (w : World) (hn : n < 4294967296) :
    Calls Tryd.prog 13 #[.int .u32 n] w fun e w' => e = .returned (.string (ba (fourL n))) ∧ Below w.heap.size w w' := by
  go_enter Tryd.func13, Tryd.ntmps13
  go_wp2
  go_loopw [0, 3, 4] (fun m s i wr => ∃ k : Nat, k ≤ 4 ∧ i = .int .i64 k ∧ m = .int .u32 (n / 256 ^ k : Nat) ∧ s = .string (ba (fourK n k)) ∧ Below w.heap.size w wr) (fun _ _ i _ => 4 - (intOf i).toNat)
  case atStart => exact ⟨0, Nat.zero_le _, rfl, by simp, rfl, Below.refl _ _⟩
  case round =>
    obtain ⟨k, hk, rfl, rfl, rfl, hb⟩ := hrel
    by_cases hlt : k < 4
    · have hq : n / 256 ^ k ≤ n := Nat.div_le_self _ _
      have HD : Hid (n / 256 ^ (k + 1) = n / 256 ^ k / 256) := by show _ = _; rw [Nat.pow_succ, Nat.div_div_eq_div_mul]
      have HK : Hid (fourK n (k + 1) = fourK n k ++ [(n / 256 ^ k % 256).toUInt8]) := fourK_step n k hlt
      obtain ⟨q, hqv⟩ : ∃ q, q = n / 256 ^ k := ⟨_, rfl⟩
      rw [← hqv] at hq HD HK ⊢
      clear hqv
      obtain ⟨X, hX⟩ : ∃ X, X = ba (fourK n k) := ⟨_, rfl⟩
      have hXz : X.size = k := by rw [hX, ba_size]; unfold fourK; rw [List.length_take, four_len]; omega
      have HX : Hid (X = ba (fourK n k)) := hX
      rw [← hX]
      clear hX
      have hrun := run_convert_bytes_arg (P := Tryd.prog) (wr.alloc (Obj.cells #[.int .u8 ((q : Int) % 256)] 5)) 48 5 Tryd.underlying48 Tryd.underlying5 wr.heap.size 0 1 1 [(q : Int) % 256] rfl (fun i hi => by
        obtain rfl : i = 0 := by omega
        simp [go_sem]) 9 Tryd.underlying9
      have HY : Hid (X ++ strOfNums [(q : Int) % 256] = ba (fourK n (k + 1))) := by
        show _ = _
        rw [HX.out, HK.out, ← ba_app]
        congr 1
      have hb2 : Below w.heap.size w (wr.alloc (Obj.cells #[.int .u8 ((q : Int) % 256)] 5)) := hb.alloc hb.size _
      have hz1 : (strOfNums [(q : Int) % 256]).size = 1 := strOfNums_size _
      obtain ⟨Y, hY⟩ : ∃ Y, Y = strOfNums [(q : Int) % 256] := ⟨_, rfl⟩
      rw [← hY] at hrun HY hz1
      clear hY
      go_wp2
      go_roundw
      case rel =>
        refine ⟨k + 1, by omega, by go_num, ?_, ?_, hb2⟩
        · rw [HD.out]; rfl
        · rw [HY.out]
      case measure => simp [intOf]; omega
    · obtain rfl : k = 4 := by omega
      have HE : Hid (fourK n 4 = fourL n) := rfl
      rw [HE.out]
      go_wp2
      go_ret
      exact ⟨rfl, hb⟩
end Go.Proofs.YtfppcecjpaefdaaDoor
