/- The walk of money.Print. -/
import Derived.Test.YtppamojkhkdfpaaDoorMoneyDigits
namespace Go.Proofs.YtppamojkhkdfpaaDoor
open Go.RowKit
/-- What Print writes, as bytes: of the size (units and hundredths) behind the sign. -/
def amtSize (m : Nat) : List Int := dg (wdN (m / 100)) ((m / 100 : Nat) : Int) ++ 46 :: dg 2 ((m % 100 : Nat) : Int)
/-- What Print writes. -/
def amt (n : Int) : List Int := (if n < 0 then [45] else []) ++ amtSize n.natAbs
theorem digits_two (n : Int) (w : World) (h0 : 0 ≤ n) (h1 : n ≤ 18446744073709551615) :
    Calls Tryd.prog 48 #[.int .u64 n, .int .i64 2] w fun e w' => e = .returned (.string (strOfNums (dg 2 n))) ∧ Below w.heap.size w w' :=
  digits_any n 2 w h0 h1 (by omega)
theorem dg_size (c : Nat) (n : Int) : (strOfNums (dg c n)).size = c := by rw [strOfNums_size, dg_length]
theorem ba_ext {a b : ByteArray} (h : a.data.toList = b.data.toList) : a = b := by
  cases a; cases b; simp at h; simp [h]
theorem ret_str {a b : ByteArray} (h : a.data.toList = b.data.toList) : Ending.returned (.string a) = .returned (.string b) := by rw [ba_ext h]
set_option maxHeartbeats 1000000 in
theorem print_pos (n : Nat) (w : World) (h1 : n ≤ 9223372036854775807) :
    Calls Tryd.prog 26 #[.int .i64 n] w fun e w' => e = .returned (.string (strOfNums (amt n))) ∧ Below w.heap.size w w' := by
  have hw := wdN_le 20 (n / 100) (by omega) (by omega)
  have z1 := dg_size (wdN (n / 100)) ((n : Int) / 100)
  have z2 := dg_size 2 ((n : Int) % 100)
  go_enter Tryd.func26, Tryd.ntmps26
  go_wp2_with (first | (go_at_call 49; refine (width_any (n / 100) _ (by omega)).mono ?_; rintro e w' ⟨rfl, rfl⟩))
  refine (digits_any ((n : Int) / 100) (wdN (n / 100)) _ (by omega) (by omega) (by omega)).mono ?_
  rintro e w1 ⟨rfl, hb1⟩
  go_wp2_with fail
  refine (digits_two ((n : Int) % 100) _ (by omega) (by omega)).mono ?_
  rintro e w2 ⟨rfl, hb2⟩
  go_wp2
  go_ret
  refine ⟨ret_str ?_, hb1.trans (hb2.mono hb1.size)⟩
  rw [strOfNums_data]
  simp [strOfNums, amt, amtSize]
set_option maxHeartbeats 1000000 in
theorem print_neg (n : Int) (w : World) (h0 : n < 0) (h1 : -9223372036854775808 ≤ n) :
    Calls Tryd.prog 26 #[.int .i64 n] w fun e w' => e = .returned (.string (strOfNums (amt n))) ∧ Below w.heap.size w w' := by
  obtain ⟨m, rfl⟩ : ∃ m : Nat, n = -(m : Int) := ⟨n.natAbs, by omega⟩
  have hw := wdN_le 20 (m / 100) (by omega) (by omega)
  have z1 := dg_size (wdN (m / 100)) ((m : Int) / 100)
  have z2 := dg_size 2 ((m : Int) % 100)
  have hneg : IntKind.u64.wrap (-(IntKind.u64.wrap (-(m : Int)))) = (m : Int) := by rw [IntKind.wrap_u64, IntKind.wrap_u64]; omega
  go_enter Tryd.func26, Tryd.ntmps26
  go_wp2_with (first | (go_at_call 49; refine (width_any (m / 100) _ (by omega)).mono ?_; rintro e w' ⟨rfl, rfl⟩))
  refine (digits_any ((m : Int) / 100) (wdN (m / 100)) _ (by omega) (by omega) (by omega)).mono ?_
  rintro e w1 ⟨rfl, hb1⟩
  go_wp2_with fail
  refine (digits_two ((m : Int) % 100) _ (by omega) (by omega)).mono ?_
  rintro e w2 ⟨rfl, hb2⟩
  go_wp2
  go_ret
  refine ⟨ret_str ?_, hb1.trans (hb2.mono hb1.size)⟩
  rw [strOfNums_data]
  have hm : 0 < m := by omega
  simp [strOfNums, amt, amtSize, hm]
theorem print_any (n : Int) (w : World) (h0 : -9223372036854775808 ≤ n) (h1 : n ≤ 9223372036854775807) :
    Calls Tryd.prog 26 #[.int .i64 n] w fun e w' => e = .returned (.string (strOfNums (amt n))) ∧ Below w.heap.size w w' := by
  by_cases h : n < 0
  · exact print_neg n w h h0
  · obtain ⟨m, rfl⟩ : ∃ m : Nat, n = (m : Int) := ⟨n.natAbs, by omega⟩
    exact print_pos m w (by omega)
/-- What numbers are as bytes. -/
def byt (l : List Int) : List UInt8 := l.map fun n => UInt8.ofNat n.toNat
end Go.Proofs.YtppamojkhkdfpaaDoor
