/- The walks of day.two and day.Print. -/
import Derived.Test.YtapkandekfndoaaGreatDoorDayParts
import Derived.Laws.BytesArg
namespace Go.Proofs.YtapkandekfndoaaGreatDoor
open Go.RowKit
theorem dba_ext {a b : ByteArray} (h : a.data.toList = b.data.toList) : a = b := by
  cases a; cases b; simp at h; simp [h]
theorem dret_str {a b : ByteArray} (h : a.data.toList = b.data.toList) : Ending.returned (.string a) = .returned (.string b) := by rw [dba_ext h]
set_option maxHeartbeats 1000000 in
theorem two_any (n : Int) (w : World) (h0 : 0 ≤ n) (h1 : n ≤ 99) :
    Calls Tryz.prog 54 #[.int .i64 n] w fun e w' => e = .returned (.string (strOfNums (tw n))) ∧ Below w.heap.size w w' := by
  have hrun := run_convert_bytes_arg (P := Tryz.prog) (w.alloc (.cells #[.int .u8 (48 + n / 10), .int .u8 (48 + n % 10)] 5)) 89 5 Tryz.underlying89 Tryz.underlying5 w.heap.size 0 2 2 (tw n) rfl (fun i hi => by
        rcases i with _ | _ | i
        · simp [tw]
        · simp [tw]
        · omega) 9 Tryz.underlying9
  have hb : Below w.heap.size w (w.alloc (.cells #[.int .u8 (48 + n / 10), .int .u8 (48 + n % 10)] 5)) := (Below.refl _ _).alloc (Nat.le_refl _) _
  go_enter Tryz.func54, Tryz.ntmps54
  go_wp2
  go_ret
  exact ⟨rfl, hb⟩
theorem two_size (n : Int) : (strOfNums (tw n)).size = 2 := by rw [strOfNums_size]; rfl
theorem dtx_data (y m d : Int) : (strOfNums (dtx y m d)).data.toList = bts (dtx y m d) := by rw [strOfNums_data]; rfl
theorem tup2s {a a' : ByteArray} {v : Value} (h1 : a.data.toList = a'.data.toList) : Ending.returned (.tuple #[.string a, v]) = .returned (.tuple #[.string a', v]) := by rw [dba_ext h1]
set_option maxHeartbeats 2000000 in
theorem dprint_ok (n : Int) (w : World) (hl : LenTab w) (h0 : 0 ≤ n) (h1 : n ≤ 99999) :
    Calls Tryz.prog 25 #[.int .i64 n] w fun e w' => e = .returned (.tuple #[.string (strOfNums (DT n)), .nilIface]) ∧ Below w.heap.size w w' := by
  have hk := dK_le h0 h1
  obtain ⟨y, hy⟩ : ∃ y, y = ky (dK n) := ⟨_, rfl⟩
  obtain ⟨m, hm⟩ : ∃ m, m = km (dK n) := ⟨_, rfl⟩
  obtain ⟨d, hd⟩ : ∃ d, d = dD n := ⟨_, rfl⟩
  have hyb : 1900 ≤ y ∧ y ≤ 2200 := by rw [hy]; exact ⟨ky_ge _, by unfold ky; omega⟩
  have hmb : 1 ≤ m ∧ m ≤ 12 := by rw [hm]; exact km_bd _
  have hdb : 1 ≤ d ∧ d ≤ 31 := by rw [hd]; exact dD_bd h0
  have HD : Hid (DT n = dtx y m d) := by show DT n = _; rw [hy, hm, hd]; rfl
  have hp := dparts_ok n w hl h0 h1
  rw [← hy, ← hm, ← hd] at hp
  have HP : Hid (Calls Tryz.prog 19 #[.int .i64 n] w fun e w' => e = .returned (.tuple #[.int .i64 y, .int .i64 m, .int .i64 d, .nilIface]) ∧ w' = w) := hp
  have z1 := two_size (y / 100)
  have z2 := two_size (y % 100)
  have z3 := two_size m
  have z4 := two_size d
  clear hy hm hd hk hp hl
  go_enter Tryz.func25, Tryz.ntmps25
  go_wp2_with fail
  refine HP.out.mono ?_
  rintro e w' ⟨rfl, hw⟩
  subst w'
  clear HP
  go_wp2_with fail
  refine (two_any (y / 100) _ (by omega) (by omega)).mono ?_
  rintro e w1 ⟨rfl, hb1⟩
  go_wp2_with fail
  refine (two_any (y % 100) _ (by omega) (by omega)).mono ?_
  rintro e w2 ⟨rfl, hb2⟩
  go_wp2_with fail
  refine (two_any m _ (by omega) (by omega)).mono ?_
  rintro e w3 ⟨rfl, hb3⟩
  go_wp2_with fail
  refine (two_any d _ (by omega) (by omega)).mono ?_
  rintro e w4 ⟨rfl, hb4⟩
  go_wp2
  go_ret2
  have h12 := hb1.trans (hb2.mono hb1.size)
  have h13 := h12.trans (hb3.mono h12.size)
  refine ⟨tup2s ?_, h13.trans (hb4.mono h13.size)⟩
  rw [HD.out, dtx_data]
  simp [strOfNums, dtx, bts]
theorem dprint_bad (n : Int) (w : World) (h : n < 0 ∨ 99999 < n) :
    Calls Tryz.prog 25 #[.int .i64 n] w fun e w' => e = .returned (.tuple #[.string ⟨#[]⟩, .iface 23 (.int .i64 1)]) ∧ w' = w := by
  go_enter Tryz.func25, Tryz.ntmps25
  go_wp2_with fail
  refine (dparts_bad n _ h).mono ?_
  rintro e w' ⟨rfl, hw⟩
  subst w'
  go_wp2
  go_ret2
  exact ⟨rfl, rfl⟩
end Go.Proofs.YtapkandekfndoaaGreatDoor
