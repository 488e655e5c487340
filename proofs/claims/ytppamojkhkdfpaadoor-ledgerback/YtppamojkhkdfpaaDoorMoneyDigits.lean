/- The walks of money.width and money.digits. -/
import Derived.Test.YtppamojkhkdfpaaDoorBase
import Derived.Test.YtppamojkhkdfpaaDoorDigitMath
import Derived.Laws.BytesArg
namespace Go.Proofs.YtppamojkhkdfpaaDoor
open Go.RowKit
theorem Tryd.infoByte : (Tryd.prog.info? 5).map (fun i => (i.zero, i.size, i.bytes)) = some (some (.int .u8 0), 1, 1) := by kernel_rfl
/-- The cells of the text when k digits are laid. -/
def dgRow (c k : Nat) (n : Int) : List Value := List.replicate (c - k) (.int .u8 0) ++ (dg k n).map (Value.int .u8)
theorem dgRow_len (c k : Nat) (n : Int) (h : k ≤ c) : (dgRow c k n).length = c := by simp [dgRow, dg_length]; omega
theorem dgRow_step (c k : Nat) (n : Int) (h : k < c) : (dgRow c k n).set (c - 1 - k) (.int .u8 (48 + dv k n % 10)) = dgRow c (k + 1) n := by
  unfold dgRow
  have e : c - k = (c - 1 - k) + 1 := by omega
  rw [e, replicate_set]
  have e2 : c - (k + 1) = c - 1 - k := by omega
  rw [e2]; rfl
theorem dgRow_all (c : Nat) (n : Int) (i : Nat) (h : i < c) : (dgRow c c n)[i]? = some (.int .u8 ((dg c n).getD i 0)) := by
  simp [dgRow, List.getElem?_map, List.getD]
  rw [List.getElem?_eq_getElem (by rw [dg_length]; exact h)]
  simp
set_option maxHeartbeats 1000000 in
theorem digits_any (n : Int) (c : Nat) (w : World) (h0 : 0 ≤ n) (h1 : n ≤ 18446744073709551615) (hc : c ≤ 20) :
    Calls Tryd.prog 48 #[.int .u64 n, .int .i64 c] w fun e w' => e = .returned (.string (strOfNums (dg c n))) ∧ Below w.heap.size w w' := by
  obtain ⟨i0, hi, hz0, hz1, hz2⟩ := info_parts Tryd.infoByte
  go_enter Tryd.func48, Tryd.ntmps48
  go_wp2_with (at_make; refine wpList_make_full _ rfl _ _ 76 rfl w.heap.size 5 i0 (.int .u8 0) 1 Tryd.underlying76 hi hz0 hz1 .i64 .i64 _ _ c rfl rfl rfl rfl (by rw [hz2]; omega) (by unfold maxLen; omega) (Nat.le_refl _) ?_; intro w1 hown hgrow)
  have hbel : Below w.heap.size w w1 := (Below.refl _ _).grown hgrow (Nat.le_refl _) (by simp)
  have hown1 : w1.ownsRow w.heap.size 5 1 (.slice (some ⟨w.heap.size, 0, none⟩) c c) c (dgRow c 0 n) := by
    have e : (madeCells (Value.int IntKind.u8 0).cells (c * 1)).toList = dgRow c 0 n := by
      show (madeCells #[_] _).toList = _
      rw [toList_madeCells_one]; simp [dgRow, dg]
    rw [← e]; exact hown
  clear hown hgrow hi hz0 hz1 hz2
  go_loopw [0, 10] (fun m i wr => ∃ k : Nat, k ≤ c ∧ i = .int .i64 k ∧ m = .int .u64 (dv k n) ∧ wr.ownsRow w.heap.size 5 1 (.slice (some ⟨w.heap.size, 0, none⟩) c c) c (dgRow c k n) ∧ Below w.heap.size w wr) (fun _ i _ => c - (intOf i).toNat)
  case atStart => exact ⟨0, Nat.zero_le _, rfl, rfl, hown1, hbel⟩
  case round =>
    clear hown1 hbel
    obtain ⟨k, hk, rfl, rfl, hown, hbel⟩ := hrel
    have hd := dv_bd k n h0
    by_cases hlt : k < c
    · have hcell : wr.cell? ⟨w.heap.size, c - 1 - k, none⟩ = some ((dgRow c k n)[c - 1 - k]'(by rw [dgRow_len _ _ _ hk]; omega)) := by
        rw [hown.cellAt _ (by omega)]; exact List.getElem?_eq_getElem _
      have hfz := hown.frozenAt (c - 1 - k)
      have hst := (hown.stored (c - 1 - k) (.int .u8 (48 + dv k n % 10))).1
      rw [dgRow_step c k n hlt] at hst
      have hb2 := hbel.setCell (p := ⟨w.heap.size, c - 1 - k, none⟩) (Nat.le_refl _) (.int .u8 (48 + dv k n % 10))
      go_wp2
      go_roundw
      case rel => exact ⟨k + 1, by omega, by go_num, rfl, hst, hb2⟩
      case measure => simp [intOf]; omega
    · obtain rfl : k = c := by omega
      have hrun := run_convert_bytes_arg (P := Tryd.prog) wr 76 5 Tryd.underlying76 Tryd.underlying5 w.heap.size 0 k k (dg k n) (dg_length _ _) (fun i hi => by
        have := hown.cellAt i (by omega); simp only [Nat.zero_add]; rw [this]; exact dgRow_all k n i hi) 9 Tryd.underlying9
      go_wp2
      go_ret
      exact ⟨rfl, hbel⟩
theorem ten_lt (k : Nat) (n : Int) (h : dv k n < 10) (h0 : 0 ≤ n) : dv (k + 1) n = 0 := by
  have := dv_bd k n h0; simp only [dv]; omega
/-- The width, counted as the code counts it: how many times a number is cut till it is below ten. -/
theorem wdN_big (n : Nat) (h : 10 ≤ n) : wdN n = wdN (n / 10) + 1 := Lib.nDigits_big (by omega)
theorem wdN_small (n : Nat) (h : n < 10) : wdN n = 1 := Lib.nDigits_small h
theorem wdN_le : ∀ (m n : Nat), n < 10 ^ m → 1 ≤ m → 1 ≤ wdN n ∧ wdN n ≤ m
  | 0, _, _, h => by omega
  | m + 1, n, h, _ => by
    by_cases hn : n < 10
    · rw [wdN_small n hn]; omega
    · have hm : 1 ≤ m := by
        cases m with
        | zero => omega
        | succ m => omega
      have := wdN_le m (n / 10) (by rw [Nat.pow_succ] at h; omega) hm
      rw [wdN_big n (by omega)]; omega
set_option maxHeartbeats 1000000 in
theorem width_any (n : Nat) (w : World) (h1 : n ≤ 18446744073709551615) :
    Calls Tryd.prog 49 #[.int .u64 n] w fun e w' => e = .returned (.int .i64 (wdN n)) ∧ w' = w := by
  have hw := wdN_le 20 n (by omega) (by omega)
  go_enter Tryd.func49, Tryd.ntmps49
  go_wp2
  go_loop [0, 3] (fun m c => ∃ (x k : Nat), x ≤ n ∧ m = .int .u64 x ∧ c = .int .i64 k ∧ 1 ≤ k ∧ k + wdN x = wdN n + 1) (fun m _ => (intOf m).toNat)
  case atStart => exact ⟨n, 1, Nat.le_refl _, rfl, rfl, Nat.le_refl _, by omega⟩
  case round =>
    obtain ⟨x, k, hx, rfl, rfl, hk, he⟩ := hrel
    have HE : Hid (k + wdN x = wdN n + 1) := he
    have hkk : k ≤ wdN n + 1 := by omega
    clear he
    by_cases hlt : x < 10
    · go_wp2
      go_ret
      refine ⟨ret_int ?_, rfl⟩
      have := HE.out; rw [wdN_small x hlt] at this; omega
    · go_wp2
      go_round
      case rel =>
        refine ⟨x / 10, k + 1, by omega, by go_num, by go_num, by omega, ?_⟩
        have := HE.out; rw [wdN_big x (by omega)] at this; omega
      case measure => simp [intOf]; omega
end Go.Proofs.YtppamojkhkdfpaaDoor
