/- The walks of day.value and day.Parse. -/
import Derived.Test.YtapkandekfndoaaGreatDoorDayOf
import Derived.Test.YtapkandekfndoaaGreatDoorDayPrint
import Derived.WalkSmall
namespace Go.Proofs.YtapkandekfndoaaGreatDoor
open Go.RowKit
theorem dtake_snoc (s : ByteArray) (k : Nat) (h : k < s.size) : s.data.toList.take (k + 1) = s.data.toList.take k ++ [s[k]] := by
  rw [List.take_succ_eq_append_getElem (by simpa using h)]; rfl
set_option maxHeartbeats 1000000 in
theorem dvalue_any (s : ByteArray) (w : World) (hs : s.size ≤ 4) :
    Calls Tryz.prog 56 #[.string s] w fun e w' => e = .returned (.int .i64 (dval s.data.toList)) ∧ w' = w := by
  go_enter Tryz.func56, Tryz.ntmps56
  go_wp2
  go_loop [3, 7] (fun n i => ∃ k : Nat, k ≤ s.size ∧ i = .int .i64 k ∧ n = .int .i64 (dval (s.data.toList.take k))) (fun _ i => s.size - (intOf i).toNat)
  case atStart => exact ⟨0, Nat.zero_le _, rfl, rfl⟩
  case round =>
    obtain ⟨k, hk, rfl, rfl⟩ := hrel
    have hl : (s.data.toList.take k).length ≤ 4 := by
      have := List.length_take_le k s.data.toList; omega
    have hd := dval_bd4 _ hl
    by_cases hlt : k < s.size
    · have HS : Hid (dval (s.data.toList.take (k + 1)) = dval1 (dval (s.data.toList.take k)) s[k]) := by rw [dtake_snoc s k hlt]; exact dval_snoc _ _
      have hc : s[k].toNat < 256 := s[k].toNat_lt
      go_wp2
      go_round
      case rel => exact ⟨k + 1, by omega, by go_num, by rw [HS.out, dval1]⟩
      case measure => simp [intOf]; omega
    · have ht : s.data.toList.take k = s.data.toList := List.take_of_length_le (by simp; omega)
      rw [ht] at hd ⊢
      clear ht hl
      go_wp2
      go_ret
      exact ⟨rfl, rfl⟩
theorem LenTab.drew {w : World} (h : LenTab w) (n : Nat) : LenTab (w.drewN n) := h.below (below_drewN (Below.refl _ _) n)
theorem dba_extract (x : ByteArray) (a b : Nat) : (x.extract a b).data.toList = (x.data.toList.take b).drop a := by
  rw [ByteArray.data_extract, Array.toList_extract, List.drop_take]
theorem dba_len (x : ByteArray) : x.data.toList.length = x.size := by simp
theorem drop8 (s : ByteArray) (hs : s.size = 10) : (s.data.toList.drop 8).take 2 = s.data.toList.drop 8 :=
  List.take_of_length_le (by rw [List.length_drop, dba_len, hs]; decide)
set_option maxHeartbeats 2000000 in
theorem dparse_ok (s : ByteArray) (n : Int) (w : World) (hl : LenTab w) (h : dparsed s.data.toList = some n) :
    Calls Tryz.prog 27 #[.string s] w fun e w' => e = .returned (.tuple #[.int .i64 n, .nilIface]) ∧ Below w.heap.size w w' := by
  obtain ⟨h1, h2, h3, h4, h5⟩ := dparsed_some h
  have hs : s.size = 10 := by rw [← dba_len]; exact h1
  rw [← drop8 s hs] at h5
  have HO : Hid (∀ k, Calls Tryz.prog 17 #[.int .i64 (dval (s.data.toList.take 4)), .int .i64 (dval ((s.data.toList.drop 5).take 2)), .int .i64 (dval ((s.data.toList.drop 8).take 2))] (w.drewN k) fun e w' => e = .returned (.tuple #[.int .i64 n, .nilIface]) ∧ w' = w.drewN k) :=
    fun k => of_ok _ _ _ n _ (hl.drew k) h5
  have HL : Hid (LenTab w) := hl
  have hcmp : ((strOfNums (DT n)).toList == s.toList) = true := by
    rw [ByteArray.toList_eq, ByteArray.toList_eq]
    show ((strOfNums (dtx _ _ _)).data.toList == _) = true
    rw [dtx_data]
    exact beq_iff_eq.2 h4
  clear hl h h1 h4 h5
  go_enter Tryz.func27, Tryz.ntmps27
  go_wp2_with fail
  go_quiet (first
    | (go_at_call 56; refine Calls.quiet_of_same (dvalue_any _ _ (by rw [ByteArray.size_extract]; omega)))
    | (go_at_call 17; refine Calls.quiet_of_same (HO.out _)))
  clear HO
  go_wp2_with fail
  refine (dprint_ok n _ (HL.out.drew _) h2 h3).mono ?_
  rintro e w1 ⟨rfl, hb1⟩
  go_wp2
  go_ret2
  exact ⟨rfl, (below_drewN (Below.refl _ _) _).trans hb1⟩
theorem dparsed_bad {l : List UInt8} (hl : l.length = 10) (h : dparsed l = none) :
    ofDay (dval (l.take 4)) (dval ((l.drop 5).take 2)) (dval (l.drop 8)) = none ∨ ∃ n, ofDay (dval (l.take 4)) (dval ((l.drop 5).take 2)) (dval (l.drop 8)) = some n ∧ bts (DT n) ≠ l := by
  rcases ho : ofDay (dval (l.take 4)) (dval ((l.drop 5).take 2)) (dval (l.drop 8)) with _ | n
  · left; rfl
  · right; refine ⟨n, rfl, fun e => ?_⟩
    unfold dparsed at h
    rw [if_pos hl, ho] at h
    simp [e] at h
set_option maxHeartbeats 2000000 in
theorem dparse_bad (s : ByteArray) (w : World) (hl : LenTab w) (_hz : s.size ≤ maxLen) (h : dparsed s.data.toList = none) :
    Calls Tryz.prog 27 #[.string s] w fun e w' => e = .returned (.tuple #[.int .i64 0, .iface 23 (.int .i64 3)]) ∧ Below w.heap.size w w' := by
  by_cases hs : s.size = 10
  · have HL : Hid (LenTab w) := hl
    rcases dparsed_bad (by rw [dba_len]; exact hs) h with h5 | ⟨n, h5, h4⟩
    · rw [← drop8 s hs] at h5
      have HO : Hid (∀ k, Calls Tryz.prog 17 #[.int .i64 (dval (s.data.toList.take 4)), .int .i64 (dval ((s.data.toList.drop 5).take 2)), .int .i64 (dval ((s.data.toList.drop 8).take 2))] (w.drewN k) fun e w' => e = .returned (.tuple #[.int .i64 0, .iface 23 (.int .i64 1)]) ∧ w' = w.drewN k) :=
        fun k => of_bad _ _ _ _ (hl.drew k) h5
      clear hl h h5
      go_enter Tryz.func27, Tryz.ntmps27
      go_wp2_with fail
      go_quiet (first
        | (go_at_call 56; refine Calls.quiet_of_same (dvalue_any _ _ (by rw [ByteArray.size_extract]; omega)))
        | (go_at_call 17; refine Calls.quiet_of_same (HO.out _)))
      clear HO
      go_wp2
      go_ret2
      exact ⟨rfl, below_drewN (Below.refl _ _) _⟩
    · have hn := ofDay_some h5
      have h2 := hn.2.2.2.2.2.2.2.1
      have h3 := hn.2.2.2.2.2.2.2.2.1
      rw [← drop8 s hs] at h5
      have HO : Hid (∀ k, Calls Tryz.prog 17 #[.int .i64 (dval (s.data.toList.take 4)), .int .i64 (dval ((s.data.toList.drop 5).take 2)), .int .i64 (dval ((s.data.toList.drop 8).take 2))] (w.drewN k) fun e w' => e = .returned (.tuple #[.int .i64 n, .nilIface]) ∧ w' = w.drewN k) :=
        fun k => of_ok _ _ _ n _ (hl.drew k) h5
      have hcmp : ((strOfNums (DT n)).toList == s.toList) = false := by
        rw [ByteArray.toList_eq, ByteArray.toList_eq]
        show ((strOfNums (dtx _ _ _)).data.toList == _) = false
        rw [dtx_data]
        exact beq_eq_false_iff_ne.2 h4
      clear hl h h4 h5 hn
      go_enter Tryz.func27, Tryz.ntmps27
      go_wp2_with fail
      go_quiet (first
        | (go_at_call 56; refine Calls.quiet_of_same (dvalue_any _ _ (by rw [ByteArray.size_extract]; omega)))
        | (go_at_call 17; refine Calls.quiet_of_same (HO.out _)))
      clear HO
      go_wp2_with fail
      refine (dprint_ok n _ (HL.out.drew _) h2 h3).mono ?_
      rintro e w1 ⟨rfl, hb1⟩
      go_wp2
      go_ret2
      exact ⟨rfl, (below_drewN (Below.refl _ _) _).trans hb1⟩
  · clear h
    go_enter Tryz.func27, Tryz.ntmps27
    go_wp2
    go_ret2
    exact ⟨rfl, Below.refl _ _⟩
end Go.Proofs.YtapkandekfndoaaGreatDoor
