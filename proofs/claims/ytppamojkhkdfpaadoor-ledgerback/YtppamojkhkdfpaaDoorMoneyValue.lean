/- The walk of money.value. -/
import Derived.Test.YtppamojkhkdfpaaDoorMoneyPrint
import Derived.Test.YtppamojkhkdfpaaDoorValMath
namespace Go.Proofs.YtppamojkhkdfpaaDoor
open Go.RowKit
theorem val_bd15 (l : List UInt8) (h : l.length ≤ 15) : 0 ≤ val l ∧ val l ≤ 1000000000000000 := by
  have h1 := val_bd l.length l rfl
  have h2 : (10 : Int) ^ l.length ≤ 10 ^ 15 := by
    have : (10 : Nat) ^ l.length ≤ 10 ^ 15 := Nat.pow_le_pow_right (by omega) h
    exact_mod_cast this
  have h3 : (10 : Int) ^ 15 = 1000000000000000 := by decide
  omega
theorem head_is (s : ByteArray) (h : 0 < s.size) : s.data.toList.head? = some s[0] := by
  rw [List.head?_eq_getElem?, List.getElem?_eq_getElem (by simpa using h)]; rfl
set_option maxHeartbeats 1000000 in
theorem value_any (s : ByteArray) (w : World) (hs : s.size ≤ 15) :
    Calls Tryd.prog 66 #[.string s] w fun e w' => e = .returned (.int .i64 (sval s.data.toList)) ∧ w' = w := by
  go_enter Tryd.func66, Tryd.ntmps66
  go_wp2
  go_loop [3, 7] (fun n i => ∃ k : Nat, k ≤ s.size ∧ i = .int .i64 k ∧ n = .int .i64 (val (s.data.toList.take k))) (fun _ i => s.size - (intOf i).toNat)
  case atStart => exact ⟨0, Nat.zero_le _, rfl, rfl⟩
  case round =>
    obtain ⟨k, hk, rfl, rfl⟩ := hrel
    have hl : (s.data.toList.take k).length ≤ 15 := by
      have := List.length_take_le k s.data.toList; omega
    have hd := val_bd15 _ hl
    by_cases hlt : k < s.size
    · have HS : Hid (val (s.data.toList.take (k + 1)) = val1 (val (s.data.toList.take k)) s[k]) := by rw [take_snoc s k hlt]; exact val_snoc _ _
      by_cases c1 : 48 ≤ (s[k].toNat : Int)
      · by_cases c2 : (s[k].toNat : Int) ≤ 57
        · go_wp2
          go_round
          case rel => exact ⟨k + 1, by omega, by go_num, by rw [HS.out, val1, if_pos ⟨c1, c2⟩]⟩
          case measure => simp [intOf]; omega
        · go_wp2
          go_round
          case rel => exact ⟨k + 1, by omega, by go_num, by rw [HS.out, val1, if_neg (by omega)]⟩
          case measure => simp [intOf]; omega
      · go_wp2
        go_round
        case rel => exact ⟨k + 1, by omega, by go_num, by rw [HS.out, val1, if_neg (by omega)]⟩
        case measure => simp [intOf]; omega
    · have ht : s.data.toList.take k = s.data.toList := List.take_of_length_le (by simp; omega)
      rw [ht] at hd ⊢
      clear ht hl
      by_cases hp : 0 < s.size
      · have hh := head_is s hp
        by_cases c : (s[0].toNat : Int) = 45
        · have HM : Hid (-val s.data.toList = sval s.data.toList) := by
            have : s[0] = 45 := by apply UInt8.toNat_inj.mp; show s[0].toNat = 45; omega
            show _ = sval _
            simp [sval, hh, this]
          clear hh
          go_wp2
          go_ret
          exact ⟨ret_int HM.out, rfl⟩
        · have HM : Hid (val s.data.toList = sval s.data.toList) := by
            have : s[0] ≠ 45 := by intro e; rw [e] at c; exact c rfl
            show _ = sval _
            simp [sval, hh, this]
          clear hh
          go_wp2
          go_ret
          exact ⟨ret_int HM.out, rfl⟩
      · have HM : Hid (val s.data.toList = sval s.data.toList) := by
          have : s.data.toList = [] := List.eq_nil_of_length_eq_zero (by rw [Array.length_toList]; show s.size = 0; omega)
          show _ = sval _
          simp [sval, this]
        go_wp2
        go_ret
        exact ⟨ret_int HM.out, rfl⟩
theorem sval_bd (l : List UInt8) (h : l.length ≤ 15) : -1000000000000000 ≤ sval l ∧ sval l ≤ 1000000000000000 := by
  have := val_bd15 l h
  unfold sval; split <;> omega
end Go.Proofs.YtppamojkhkdfpaaDoor
