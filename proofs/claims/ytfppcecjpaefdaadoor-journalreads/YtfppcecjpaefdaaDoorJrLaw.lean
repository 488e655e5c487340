/- The walk of tallymanlaw.JournalReads. -/
import Derived.Test.YtfppcecjpaefdaaDoorJrRefD
import Derived.Test.YtfppcecjpaefdaaDoorErrBare
namespace Go.Proofs.YtfppcecjpaefdaaDoor
open Go.RowKit
set_option maxHeartbeats 2000000 in
theorem sameTexts_yes (l : List (List UInt8)) (ao bo : Option Addr) (ca cb : Nat) (w : World) (ha : StrsC w ao l) (hb : StrsC w bo l) (hl : l.length ≤ 100000) :
    Calls Tryd.prog 11 #[.slice ao l.length ca, .slice bo l.length cb] w fun e w' => e = .returned (.bool true) ∧ Below w.heap.size w w' := by
  have HA : Hid (StrsC w ao l) := ha
  have HB : Hid (StrsC w bo l) := hb
  clear ha hb
  go_enter Tryd.func11, Tryd.ntmps11
  go_wp2
  go_loopw [5] (fun i wr => ∃ k : Nat, k ≤ l.length ∧ i = .int .i64 k ∧ Below w.heap.size w wr) (fun i _ => l.length - (intOf i).toNat)
  case atStart => exact ⟨0, Nat.zero_le _, rfl, Below.refl _ _⟩
  case round =>
    obtain ⟨k, hk, rfl, hb⟩ := hrel
    by_cases hlt : k < l.length
    · obtain ⟨b1, o1, e1, lt1, c1⟩ := HA.out.below hb (by omega)
      obtain ⟨b2, o2, e2, lt2, c2⟩ := HB.out.below hb (by omega)
      subst e1 e2
      have d1 := c1 k hlt
      have d2 := c2 k hlt
      unfold encS at d1 d2
      clear c1 c2 HA HB
      have mixed : Tryd.prog.follows .mixedOrders = true := by kernel_rfl
      go_wp2_with fail
      go_quiet (fail)
      go_wp2
      go_roundw
      case rel => exact ⟨k + 1, by omega, by go_num, below_drewN hb _⟩
      case measure => simp [intOf]; omega
    · go_wp2
      go_ret
      exact ⟨rfl, hb⟩
/-- Both make of a line the same text, and tell the same error. -/
def FrPair (n : Int) (t : ByteArray) (u : ByteArray) (k : Int) (ev : Value) : Prop :=
  (∀ w, Calls Tryd.prog 4 #[.int .i64 n, .string t] w fun e w' => e = .returned (.tuple #[.string u, .int .i64 k]) ∧ Below w.heap.size w w') ∧
  (∀ w, Calls Tryd.prog 5 #[.int .i64 n, .string t] w fun e w' => e = .returned (.tuple #[.string u, ev]) ∧ Below w.heap.size w w') ∧
  (∀ w, ErrType w → Calls Tryd.prog 6 #[ev, .int .i64 k] w fun e w' => e = .returned (.bool true) ∧ Below w.heap.size w w')
theorem fr_pair (n : Int) (t : ByteArray) (ht : t.size ≤ 260) : ∃ u k ev, FrPair n t u k ev := by
  by_cases h2 : 200 < t.size
  · exact ⟨ba [], 4, .iface 22 (.int .i64 4), fun w => rframe_long n t w (by unfold maxLen; omega) h2, fun w => jframe_long n t w (by unfold maxLen; omega) h2, fun w hg => bare_errno 4 w hg⟩
  · by_cases hn : n < 0 ∨ 100000 < n
    · exact ⟨ba [], 1, .iface 22 (.int .i64 1), fun w => rframe_arg n t w (by omega) hn, fun w => jframe_arg n t w (by omega) hn, fun w hg => bare_errno 1 w hg⟩
    · obtain ⟨m, rfl⟩ : ∃ m : Nat, n = m := ⟨n.toNat, by omega⟩
      exact ⟨ba (frameL m t.data.toList), 0, .nilIface, fun w => rframe_ok m t w (by omega) (by omega), fun w => jframe_ok m t w (by omega) (by omega), fun w _ => bare_nil w⟩
set_option maxRecDepth 20000 in
set_option maxHeartbeats 8000000 in
theorem jreads_walk (n : Int) (t s : ByteArray) (w : World) (hg : ErrType w) (_ : (Lit.int .i64 n).wf = true) (ht : t.size ≤ maxLen) (hs : s.size ≤ maxLen) :
    Calls Tryd.prog 3 #[.int .i64 n, .string t, .string s] w fun e w' => e = .returned (.bool true) ∧ Below w.heap.size w w' := by
  unfold maxLen at ht hs
  have HG : Hid (ErrType w) := hg
  clear hg
  by_cases h1 : t.size ≤ 260
  · by_cases h2 : s.size ≤ 1500
    · obtain ⟨u, k, ev, R, J, B⟩ := fr_pair n t h1
      have S1 := fun w => jsum_any t w (by omega)
      have S2 := fun w => rsum_any t w (by omega)
      have D1 := fun w => rread_any s w (by omega)
      have D2 := fun w => jread_any s w (by omega)
      have hq : (u.toList == u.toList) = true := by simp
      go_enter Tryd.func3, Tryd.ntmps3
      go_wp2_with fail
      refine (R _).mono ?_
      rintro e w1 ⟨rfl, hb1⟩
      go_wp2_with fail
      refine (J _).mono ?_
      rintro e w2 ⟨rfl, hb2⟩
      have h12 := hb1.trans (hb2.mono hb1.size)
      go_wp2_with fail
      refine (B _ (HG.out.below h12)).mono ?_
      rintro e w3 ⟨rfl, hb3⟩
      have h13 := h12.trans (hb3.mono h12.size)
      go_wp2_with fail
      refine (S1 _).mono ?_
      rintro e w4 ⟨rfl, rfl⟩
      go_wp2_with fail
      refine (S2 _).mono ?_
      rintro e w5 ⟨rfl, rfl⟩
      clear hb1 hb2 hb3 h12 R J B S1 S2
      go_wp2_with fail
      refine (D1 _).mono ?_
      rintro e w6 ⟨v, ls, rfl, hr1, htl, ho1, hb6⟩
      obtain ⟨ao, ca, rfl, _, ha⟩ := strs_of_own ho1
      go_wp2_with fail
      refine (D2 _).mono ?_
      rintro e w7 ⟨v', ls', rfl, hr2, _, ho2, hb7⟩
      obtain rfl : ls' = ls := hr2.same hr1
      obtain ⟨bo, cb, rfl, _, hb⟩ := strs_of_own ho2
      have hge := tot_ge ls'
      have HST := sameTexts_yes ls' bo ao cb ca w7 hb (ha.below hb7) (by rw [size_data] at htl; omega)
      have h17 := (h13.trans (hb6.mono h13.size))
      have h18 := h17.trans (hb7.mono h17.size)
      clear ho1 ho2 hr1 hr2 ha hb D1 D2 htl hge hb6 hb7 h13
      go_wp2_with fail
      refine HST.mono ?_
      rintro e w8 ⟨rfl, hb8⟩
      go_wp2
      go_ret
      exact ⟨rfl, h18.trans (hb8.mono h18.size)⟩
    · go_enter Tryd.func3, Tryd.ntmps3
      go_wp2
      go_ret
      exact ⟨rfl, Below.refl _ _⟩
  · go_enter Tryd.func3, Tryd.ntmps3
    go_wp2
    go_ret
    exact ⟨rfl, Below.refl _ _⟩
end Go.Proofs.YtfppcecjpaefdaaDoor
