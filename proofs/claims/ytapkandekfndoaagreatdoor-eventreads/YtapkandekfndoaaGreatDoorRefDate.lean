/- The walks of tallymanref.Date and the function within it. -/
import Derived.Test.YtapkandekfndoaaGreatDoorRefParts
import Derived.Test.YtapkandekfndoaaGreatDoorNumRead
import Derived.Test.YtapkandekfndoaaGreatDoorDayParse
namespace Go.Proofs.YtapkandekfndoaaGreatDoor
open Go.RowKit
theorem itoa_any (n : Int) (w : World) (hg : Glob w) (h0 : -9223372036854775808 ≤ n) (h1 : n ≤ 9223372036854775807) :
    Calls Tryz.prog 46 #[.int .i64 n] w fun e w' => e = .returned (.string ⟨(Lib.itoa n).toArray⟩) ∧ Below w.heap.size w w' := by
  refine (Tryz.strconv_Itoa n h0 h1 w hg.tab).mono fun e w' ⟨he, n1, os1, hw⟩ => ⟨he, ?_⟩
  exact hw ▸ Lib.below_grow _ _ (Nat.le_refl _) _ _
theorem itoa_data (l : List UInt8) : (⟨l.toArray⟩ : ByteArray).data.toList = l := rfl
set_option maxHeartbeats 1000000 in
theorem rtwo_any (n : Int) (w : World) (hg : Glob w) (h0 : 0 ≤ n) (h1 : n ≤ 99) :
    Calls Tryz.prog 53 #[.int .i64 n] w fun e w' => e = .returned (.string (strOfNums (tw n))) ∧ Below w.heap.size w w' := by
  obtain ⟨s, hs⟩ : ∃ s : ByteArray, s = ⟨(Lib.itoa (100 + n)).toArray⟩ := ⟨_, rfl⟩
  have hl : s.data.toList = 49 :: bts (tw n) := by
    obtain ⟨k, rfl⟩ : ∃ k : Nat, n = (k : Int) := ⟨n.toNat, by omega⟩
    have e : (100 : Int) + (k : Int) = ((100 + k : Nat) : Int) := by omega
    rw [hs, itoa_data, e, itoa_nat, dec_hundred k (by omega)]
  have hz : s.size = 3 := by rw [← dba_len, hl]; rfl
  have HS : Hid (s = ⟨(Lib.itoa (100 + n)).toArray⟩) := hs
  have HE : Hid (s.extract 1 s.size = strOfNums (tw n)) := by
    show s.extract 1 s.size = _
    apply dba_ext
    rw [dba_extract, List.take_of_length_le (by rw [dba_len]; exact Nat.le_refl _), hl, strOfNums_data]; rfl
  rw [hz] at HE
  have HG : Hid (Glob w) := hg
  clear hs hl hg
  go_enter Tryz.func53, Tryz.ntmps53
  go_wp2_with fail
  refine (itoa_any (100 + n) _ HG.out (by omega) (by omega)).mono ?_
  rintro e w1 ⟨rfl, hb1⟩
  rw [← HS.out]
  clear HS HG
  go_wp2
  go_ret
  exact ⟨congrArg (fun x => Ending.returned (.string x)) HE.out, hb1⟩
set_option maxHeartbeats 2000000 in
theorem rdate_ok (n : Int) (w : World) (hg : Glob w) (h0 : 0 ≤ n) (h1 : n ≤ 99999) :
    Calls Tryz.prog 24 #[.int .i64 n] w fun e w' => e = .returned (.tuple #[.string (strOfNums (DT n)), .int .i64 0]) ∧ Below w.heap.size w w' := by
  have hk := dK_le h0 h1
  obtain ⟨y, hy⟩ : ∃ y, y = ky (dK n) := ⟨_, rfl⟩
  obtain ⟨m, hm⟩ : ∃ m, m = km (dK n) := ⟨_, rfl⟩
  obtain ⟨d, hd⟩ : ∃ d, d = dD n := ⟨_, rfl⟩
  have hyb : 1900 ≤ y ∧ y ≤ 2200 := by rw [hy]; exact ⟨ky_ge _, by unfold ky; omega⟩
  have hmb : 1 ≤ m ∧ m ≤ 12 := by rw [hm]; exact km_bd _
  have hdb : 1 ≤ d ∧ d ≤ 31 := by rw [hd]; exact dD_bd h0
  have HD : Hid (DT n = dtx y m d) := by show DT n = _; rw [hy, hm, hd]; rfl
  have hp := rparts_ok n w h0 h1
  rw [← hy, ← hm, ← hd] at hp
  have HP : Hid (Calls Tryz.prog 18 #[.int .i64 n] w fun e w' => e = .returned (.tuple #[.int .i64 y, .int .i64 m, .int .i64 d, .int .i64 0]) ∧ w' = w) := hp
  obtain ⟨s, hs⟩ : ∃ s : ByteArray, s = ⟨(Lib.itoa y).toArray⟩ := ⟨_, rfl⟩
  have hl : s.data.toList = bts (tw (y / 100) ++ tw (y % 100)) := by
    obtain ⟨k, rfl⟩ : ∃ k : Nat, y = (k : Int) := ⟨y.toNat, by omega⟩
    rw [hs, itoa_data, itoa_nat, dec_four k (by omega) (by omega)]
  have HSL : Hid (s.data.toList = bts (tw (y / 100) ++ tw (y % 100))) := hl
  have z1 : s.size = 4 := by rw [← dba_len, hl]; rfl
  have z3 := two_size m
  have z4 := two_size d
  have HS : Hid (s = ⟨(Lib.itoa y).toArray⟩) := hs
  have HG : Hid (Glob w) := hg
  clear hy hm hd hk hp hg hl hs
  go_enter Tryz.func24, Tryz.ntmps24
  go_wp2_with fail
  refine HP.out.mono ?_
  rintro e w' ⟨rfl, hw⟩
  subst w'
  clear HP
  go_wp2_with fail
  refine (itoa_any y _ HG.out (by omega) (by omega)).mono ?_
  rintro e w1 ⟨rfl, hb1⟩
  rw [← HS.out]
  have HG1 : Hid (Glob w1) := HG.out.below hb1
  clear HS HG
  go_wp2_with fail
  refine (rtwo_any m _ HG1.out (by omega) (by omega)).mono ?_
  rintro e w2 ⟨rfl, hb2⟩
  have HG2 : Hid (Glob w2) := HG1.out.below hb2
  have h12 := hb1.trans (hb2.mono hb1.size)
  clear HG1 hb1 hb2
  go_wp2_with fail
  refine (rtwo_any d _ HG2.out (by omega) (by omega)).mono ?_
  rintro e w3 ⟨rfl, hb3⟩
  have h13 := h12.trans (hb3.mono h12.size)
  clear HG2 h12 hb3
  go_wp2
  go_ret2
  refine ⟨tup2s ?_, h13⟩
  rw [HD.out, dtx_data]
  have := HSL.out
  simp [this, strOfNums, dtx, bts]
theorem rdate_bad (n : Int) (w : World) (h : n < 0 ∨ 99999 < n) :
    Calls Tryz.prog 24 #[.int .i64 n] w fun e w' => e = .returned (.tuple #[.string ⟨#[]⟩, .int .i64 1]) ∧ w' = w := by
  go_enter Tryz.func24, Tryz.ntmps24
  go_wp2_with fail
  refine (rparts_bad n _ h).mono ?_
  rintro e w' ⟨rfl, hw⟩
  subst w'
  go_wp2
  go_ret2
  exact ⟨rfl, rfl⟩
end Go.Proofs.YtapkandekfndoaaGreatDoor
