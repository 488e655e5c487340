/- The plain mathematics of decimal digits: no word of the program. The walks of money.width and money.digits. The walk of money.Print. Postings as texts, in plain mathematics. -/
import Derived.Lib.ItoaNum
import Derived.Test.YtcfgacdcgljbaaaGreatDoorBnA
import Derived.Laws.BytesArg
namespace Go.Proofs.YtcfgacdcgljbaaaGreatDoor
/-- A number without its last k digits. -/
def dv : Nat → Int → Int
  | 0, n => n
  | k + 1, n => dv k n / 10
/-- The last k digits of a number, as the bytes that they are written in. -/
def dg : Nat → Int → List Int
  | 0, _ => []
  | k + 1, n => (48 + dv k n % 10) :: dg k n
theorem dg_length : ∀ (k : Nat) (n : Int), (dg k n).length = k
  | 0, _ => rfl
  | k + 1, n => by simp [dg, dg_length k n]
theorem dv_bd : ∀ (k : Nat) (n : Int), 0 ≤ n → 0 ≤ dv k n ∧ dv k n ≤ n
  | 0, n, h => ⟨h, Int.le_refl _⟩
  | k + 1, n, h => by have := dv_bd k n h; simp only [dv]; omega
/-- How many digits a number has. -/
def wdN (n : Nat) : Nat := Lib.nDigits n
theorem replicate_set {α : Type} (m : Nat) (z x : α) (l : List α) : (List.replicate (m + 1) z ++ l).set m x = List.replicate m z ++ x :: l := by
  induction m with
  | zero => simp [List.replicate]
  | succ m ih =>
    rw [List.replicate_succ, List.cons_append, List.set_cons_succ, ih]
    simp [List.replicate_succ]
end Go.Proofs.YtcfgacdcgljbaaaGreatDoor
namespace Go.Proofs.YtcfgacdcgljbaaaGreatDoor
open Go.RowKit
theorem Tryz.infoByte : (Tryz.prog.info? 5).map (fun i => (i.zero, i.size, i.bytes)) = some (some (.int .u8 0), 1, 1) := by kernel_rfl
/-- The cells of the text when k digits are laid. -/
def dgRow (c k : Nat) (n : Int) : List Value := List.replicate (c - k) (.int .u8 0) ++ (dg k n).map (Value.int .u8)
theorem dgRow_len (c k : Nat) (n : Int) (h : k ≤ c) : (dgRow c k n).length = c := by simp [dgRow, dg_length]; omega
theorem dgRow_step (c k : Nat) (n : Int) (h : k < c) : (dgRow c k n).set (c - 1 - k) (.int .u8 (48 + dv k n % 10)) = dgRow c (k + 1) n := by
  unfold dgRow
  have e : c - k = (c - 1 - k) + 1 := by omega
  rw [e, replicate_set]
  have e2 : c - (k + 1) = c - 1 - k := by omega
  rw [e2]; rfl
theorem dgRow_all (c : Nat) (n : Int) (i : Nat) (h : i < c) : (dgRow c c n)[i]? = some (.int .u8 ((dg c n).getD i 0)) := by
  simp [dgRow, List.getElem?_map, List.getD]
  rw [List.getElem?_eq_getElem (by rw [dg_length]; exact h)]
  simp
set_option maxHeartbeats 1000000 in
theorem digits_any (n : Int) (c : Nat) (w : World) (h0 : 0 ≤ n) (h1 : n ≤ 18446744073709551615) (hc : c ≤ 20) :
    Calls Tryz.prog 113 #[.int .u64 n, .int .i64 c] w fun e w' => e = .returned (.string (strOfNums (dg c n))) ∧ Below w.heap.size w w' := by
  obtain ⟨i0, hi, hz0, hz1, hz2⟩ := info_parts Tryz.infoByte
  go_enter Tryz.func113, Tryz.ntmps113
  go_wp2_with (at_make; refine wpList_make_full _ rfl _ _ 164 rfl w.heap.size 5 i0 (.int .u8 0) 1 Tryz.underlying164 hi hz0 hz1 .i64 .i64 _ _ c rfl rfl rfl rfl (by rw [hz2]; omega) (by unfold maxLen; omega) (Nat.le_refl _) ?_; intro w1 hown hgrow)
  have hbel : Below w.heap.size w w1 := (Below.refl _ _).grown hgrow (Nat.le_refl _) (by simp)
  have hown1 : w1.ownsRow w.heap.size 5 1 (.slice (some ⟨w.heap.size, 0, none⟩) c c) c (dgRow c 0 n) := by
    have e : (madeCells (Value.int IntKind.u8 0).cells (c * 1)).toList = dgRow c 0 n := by
      show (madeCells #[_] _).toList = _
      rw [toList_madeCells_one]; simp [dgRow, dg]
    rw [← e]; exact hown
  clear hown hgrow hi hz0 hz1 hz2
  go_loopw [0, 10] (fun m i wr => ∃ k : Nat, k ≤ c ∧ i = .int .i64 k ∧ m = .int .u64 (dv k n) ∧ wr.ownsRow w.heap.size 5 1 (.slice (some ⟨w.heap.size, 0, none⟩) c c) c (dgRow c k n) ∧ Below w.heap.size w wr) (fun _ i _ => c - (intOf i).toNat)
  case atStart => exact ⟨0, Nat.zero_le _, rfl, rfl, hown1, hbel⟩
  case round =>
    clear hown1 hbel
    obtain ⟨k, hk, rfl, rfl, hown, hbel⟩ := hrel
    have hd := dv_bd k n h0
    by_cases hlt : k < c
    · have hcell : wr.cell? ⟨w.heap.size, c - 1 - k, none⟩ = some ((dgRow c k n)[c - 1 - k]'(by rw [dgRow_len _ _ _ hk]; omega)) := by
        rw [hown.cellAt _ (by omega)]; exact List.getElem?_eq_getElem _
      have hfz := hown.frozenAt (c - 1 - k)
      have hst := (hown.stored (c - 1 - k) (.int .u8 (48 + dv k n % 10))).1
      rw [dgRow_step c k n hlt] at hst
      have hb2 := hbel.setCell (p := ⟨w.heap.size, c - 1 - k, none⟩) (Nat.le_refl _) (.int .u8 (48 + dv k n % 10))
      go_wp2
      go_roundw
      case rel => exact ⟨k + 1, by omega, by go_num, rfl, hst, hb2⟩
      case measure => simp [intOf]; omega
    · obtain rfl : k = c := by omega
      have hrun := run_convert_bytes_arg (P := Tryz.prog) wr 164 5 Tryz.underlying164 Tryz.underlying5 w.heap.size 0 k k (dg k n) (dg_length _ _) (fun i hi => by
        have := hown.cellAt i (by omega); simp only [Nat.zero_add]; rw [this]; exact dgRow_all k n i hi) 9 Tryz.underlying9
      go_wp2
      go_ret
      exact ⟨rfl, hbel⟩
theorem ten_lt (k : Nat) (n : Int) (h : dv k n < 10) (h0 : 0 ≤ n) : dv (k + 1) n = 0 := by
  have := dv_bd k n h0; simp only [dv]; omega
/-- The width, counted as the code counts it: how many times a number is cut till it is below ten. -/
theorem wdN_big (n : Nat) (h : 10 ≤ n) : wdN n = wdN (n / 10) + 1 := Lib.nDigits_big (by omega)
theorem wdN_small (n : Nat) (h : n < 10) : wdN n = 1 := Lib.nDigits_small h
theorem wdN_le : ∀ (m n : Nat), n < 10 ^ m → 1 ≤ m → 1 ≤ wdN n ∧ wdN n ≤ m
  | 0, _, _, h => by omega
  | m + 1, n, h, _ => by
    by_cases hn : n < 10
    · rw [wdN_small n hn]; omega
    · have hm : 1 ≤ m := by
        cases m with
        | zero => omega
        | succ m => omega
      have := wdN_le m (n / 10) (by rw [Nat.pow_succ] at h; omega) hm
      rw [wdN_big n (by omega)]; omega
set_option maxHeartbeats 1000000 in
theorem width_any (n : Nat) (w : World) (h1 : n ≤ 18446744073709551615) :
    Calls Tryz.prog 114 #[.int .u64 n] w fun e w' => e = .returned (.int .i64 (wdN n)) ∧ w' = w := by
  have hw := wdN_le 20 n (by omega) (by omega)
  go_enter Tryz.func114, Tryz.ntmps114
  go_wp2
  go_loop [0, 3] (fun m c => ∃ (x k : Nat), x ≤ n ∧ m = .int .u64 x ∧ c = .int .i64 k ∧ 1 ≤ k ∧ k + wdN x = wdN n + 1) (fun m _ => (intOf m).toNat)
  case atStart => exact ⟨n, 1, Nat.le_refl _, rfl, rfl, Nat.le_refl _, by omega⟩
  case round =>
    obtain ⟨x, k, hx, rfl, rfl, hk, he⟩ := hrel
    have HE : Hid (k + wdN x = wdN n + 1) := he
    have hkk : k ≤ wdN n + 1 := by omega
    clear he
    by_cases hlt : x < 10
    · go_wp2
      go_ret
      refine ⟨ret_int ?_, rfl⟩
      have := HE.out; rw [wdN_small x hlt] at this; omega
    · go_wp2
      go_round
      case rel =>
        refine ⟨x / 10, k + 1, by omega, by go_num, by go_num, by omega, ?_⟩
        have := HE.out; rw [wdN_big x (by omega)] at this; omega
      case measure => simp [intOf]; omega
end Go.Proofs.YtcfgacdcgljbaaaGreatDoor
namespace Go.Proofs.YtcfgacdcgljbaaaGreatDoor
open Go.RowKit
/-- What Print writes, as bytes: of the size (units and hundredths) behind the sign. -/
def amtSize (m : Nat) : List Int := dg (wdN (m / 100)) ((m / 100 : Nat) : Int) ++ 46 :: dg 2 ((m % 100 : Nat) : Int)
/-- What Print writes. -/
def amt (n : Int) : List Int := (if n < 0 then [45] else []) ++ amtSize n.natAbs
theorem digits_two (n : Int) (w : World) (h0 : 0 ≤ n) (h1 : n ≤ 18446744073709551615) :
    Calls Tryz.prog 113 #[.int .u64 n, .int .i64 2] w fun e w' => e = .returned (.string (strOfNums (dg 2 n))) ∧ Below w.heap.size w w' :=
  digits_any n 2 w h0 h1 (by omega)
theorem dg_size (c : Nat) (n : Int) : (strOfNums (dg c n)).size = c := by rw [strOfNums_size, dg_length]
theorem ba_ext {a b : ByteArray} (h : a.data.toList = b.data.toList) : a = b := by
  cases a; cases b; simp at h; simp [h]
theorem ret_str {a b : ByteArray} (h : a.data.toList = b.data.toList) : Ending.returned (.string a) = .returned (.string b) := by rw [ba_ext h]
set_option maxHeartbeats 1000000 in
theorem print_pos (n : Nat) (w : World) (h1 : n ≤ 9223372036854775807) :
    Calls Tryz.prog 67 #[.int .i64 n] w fun e w' => e = .returned (.string (strOfNums (amt n))) ∧ Below w.heap.size w w' := by
  have hw := wdN_le 20 (n / 100) (by omega) (by omega)
  have z1 := dg_size (wdN (n / 100)) ((n : Int) / 100)
  have z2 := dg_size 2 ((n : Int) % 100)
  go_enter Tryz.func67, Tryz.ntmps67
  go_wp2_with (first | (go_at_call 114; refine (width_any (n / 100) _ (by omega)).mono ?_; rintro e w' ⟨rfl, rfl⟩))
  refine (digits_any ((n : Int) / 100) (wdN (n / 100)) _ (by omega) (by omega) (by omega)).mono ?_
  rintro e w1 ⟨rfl, hb1⟩
  go_wp2_with fail
  refine (digits_two ((n : Int) % 100) _ (by omega) (by omega)).mono ?_
  rintro e w2 ⟨rfl, hb2⟩
  go_wp2
  go_ret
  refine ⟨ret_str ?_, hb1.trans (hb2.mono hb1.size)⟩
  rw [strOfNums_data]
  simp [strOfNums, amt, amtSize]
set_option maxHeartbeats 1000000 in
theorem print_neg (n : Int) (w : World) (h0 : n < 0) (h1 : -9223372036854775808 ≤ n) :
    Calls Tryz.prog 67 #[.int .i64 n] w fun e w' => e = .returned (.string (strOfNums (amt n))) ∧ Below w.heap.size w w' := by
  obtain ⟨m, rfl⟩ : ∃ m : Nat, n = -(m : Int) := ⟨n.natAbs, by omega⟩
  have hw := wdN_le 20 (m / 100) (by omega) (by omega)
  have z1 := dg_size (wdN (m / 100)) ((m : Int) / 100)
  have z2 := dg_size 2 ((m : Int) % 100)
  have hneg : IntKind.u64.wrap (-(IntKind.u64.wrap (-(m : Int)))) = (m : Int) := by rw [IntKind.wrap_u64, IntKind.wrap_u64]; omega
  go_enter Tryz.func67, Tryz.ntmps67
  go_wp2_with (first | (go_at_call 114; refine (width_any (m / 100) _ (by omega)).mono ?_; rintro e w' ⟨rfl, rfl⟩))
  refine (digits_any ((m : Int) / 100) (wdN (m / 100)) _ (by omega) (by omega) (by omega)).mono ?_
  rintro e w1 ⟨rfl, hb1⟩
  go_wp2_with fail
  refine (digits_two ((m : Int) % 100) _ (by omega) (by omega)).mono ?_
  rintro e w2 ⟨rfl, hb2⟩
  go_wp2
  go_ret
  refine ⟨ret_str ?_, hb1.trans (hb2.mono hb1.size)⟩
  rw [strOfNums_data]
  have hm : 0 < m := by omega
  simp [strOfNums, amt, amtSize, hm]
theorem print_any (n : Int) (w : World) (h0 : -9223372036854775808 ≤ n) (h1 : n ≤ 9223372036854775807) :
    Calls Tryz.prog 67 #[.int .i64 n] w fun e w' => e = .returned (.string (strOfNums (amt n))) ∧ Below w.heap.size w w' := by
  by_cases h : n < 0
  · exact print_neg n w h h0
  · obtain ⟨m, rfl⟩ : ∃ m : Nat, n = (m : Int) := ⟨n.natAbs, by omega⟩
    exact print_pos m w (by omega)
/-- What numbers are as bytes. -/
def byt (l : List Int) : List UInt8 := l.map fun n => UInt8.ofNat n.toNat
end Go.Proofs.YtcfgacdcgljbaaaGreatDoor
namespace Go.Proofs.YtcfgacdcgljbaaaGreatDoor
open Go.RowKit
/-- A posting's line. -/
def pline (p : Pst) : List UInt8 := byt (amt p.amt) ++ [32] ++ p.deb.data.toList ++ [32, 102, 114, 111, 109, 32] ++ p.cre.data.toList ++ [10]
def printL (ps : List Pst) : List UInt8 := ps.flatMap pline
theorem strOf_byt (l : List Int) : (strOfNums l).data.toList = byt l := by simp [strOfNums, byt]
theorem amt_len (n : Int) (h0 : -9223372036854775808 ≤ n) (h1 : n ≤ 9223372036854775807) : (amt n).length ≤ 25 := by
  unfold amt amtSize
  have := wdN_le 20 (n.natAbs / 100) (by omega) (by omega)
  rw [List.length_append, List.length_append, List.length_cons, dg_length, dg_length]
  split <;> simp <;> omega
theorem amt_strsize (n : Int) (h0 : -9223372036854775808 ≤ n) (h1 : n ≤ 9223372036854775807) : (strOfNums (amt n)).size ≤ 25 := by
  rw [strOfNums_size]; exact amt_len n h0 h1
theorem pline_len (p : Pst) (h : I64 p.amt) (hd : p.deb.size ≤ 1000) (hc : p.cre.size ≤ 1000) : (pline p).length ≤ 2100 := by
  have := amt_len p.amt h.1 h.2
  have e1 : p.deb.data.toList.length = p.deb.size := by simp
  have e2 : p.cre.data.toList.length = p.cre.size := by simp
  have e3 : (byt (amt p.amt)).length = (amt p.amt).length := by simp [byt]
  simp only [pline, List.length_append, e1, e2, e3, List.length_cons, List.length_nil]
  omega
theorem printL_len : ∀ (ps : List Pst), (∀ p ∈ ps, I64 p.amt ∧ p.deb.size ≤ 1000 ∧ p.cre.size ≤ 1000) → (printL ps).length ≤ ps.length * 2100
  | [], _ => by simp [printL]
  | p :: ps, h => by
    have h1 := h p (List.mem_cons_self ..)
    have h2 := printL_len ps (fun q hq => h q (List.mem_cons_of_mem _ hq))
    have h3 := pline_len p h1.1 h1.2.1 h1.2.2
    have e : printL (p :: ps) = pline p ++ printL ps := rfl
    rw [e, List.length_append, List.length_cons, Nat.add_mul]
    omega
theorem printL_snoc {ps : List Pst} {k : Nat} (hk : k < ps.length) : printL (ps.take (k + 1)) = printL (ps.take k) ++ pline ps[k] := by
  unfold printL
  rw [List.take_succ_eq_append_getElem hk, List.flatMap_append]
  simp
end Go.Proofs.YtcfgacdcgljbaaaGreatDoor
