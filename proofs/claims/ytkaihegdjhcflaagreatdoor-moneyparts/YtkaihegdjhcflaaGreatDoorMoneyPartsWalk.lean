/- The walk of tallymanlaw.MoneyParts: it returns true. -/
import Derived.Test.YtkaihegdjhcflaaGreatDoorRefParse
import Derived.Test.YtkaihegdjhcflaaGreatDoorRefSpread
import Derived.Test.YtkaihegdjhcflaaGreatDoorMoneySpread
namespace Go.Proofs.YtkaihegdjhcflaaGreatDoor
open Go.RowKit
theorem hid {p : Prop} (h : p) : Hid p := h
/-- Two functions give the same number, and the second's error is the first's. -/
def PairOK (fr fm : Nat) (args : Array Value) : Prop := ∃ (m k : Int) (ev : Value),
  (∀ W, Glob W → Calls Tryz.prog fr args W fun e W' => e = .returned (.tuple #[.int .i64 m, .int .i64 k]) ∧ Below W.heap.size W W') ∧
  (∀ W, Glob W → Calls Tryz.prog fm args W fun e W' => e = .returned (.tuple #[.int .i64 m, ev]) ∧ Below W.heap.size W W') ∧
  (∀ W, Glob W → Calls Tryz.prog 6 #[ev, .int .i64 k] W fun e W' => e = .returned (.bool true) ∧ Below W.heap.size W W')
theorem bare_nil' (W : World) (_ : Glob W) : Calls Tryz.prog 6 #[.nilIface, .int .i64 0] W fun e W' => e = .returned (.bool true) ∧ Below W.heap.size W W' := bare_nil W
theorem bare_errno' (k : Int) (W : World) (h : Glob W) : Calls Tryz.prog 6 #[.iface 23 (.int .i64 k), .int .i64 k] W fun e W' => e = .returned (.bool true) ∧ Below W.heap.size W W' := bare_errno k W h.et
theorem part_pair (t s v : Int) : PairOK 4 5 #[.int .i64 t, .int .i64 s, .int .i64 v] := by
  by_cases h : 0 ≤ t ∧ t ≤ 20000000000000 ∧ 0 ≤ s ∧ s ≤ v ∧ 1 ≤ v ∧ v ≤ 100000
  · obtain ⟨h1, h2, h3, h4, h5, h6⟩ := h
    refine ⟨shr t s v, 0, .nilIface, fun W hg => refPart_ok t s v W hg h1 h2 h3 h4 h5 h6, fun W _ => ?_, bare_nil'⟩
    refine (part_ok t s v W h1 h2 h3 h4 h5 h6).mono fun e W' ⟨he, n, hw⟩ => ?_
    subst hw
    exact ⟨he, below_drewN (Below.refl _ _) n⟩
  · have hb : t < 0 ∨ 20000000000000 < t ∨ v < 1 ∨ 100000 < v ∨ s < 0 ∨ v < s := by omega
    refine ⟨0, 1, .iface 23 (.int .i64 1), fun W _ => ?_, fun W _ => ?_, bare_errno' 1⟩
    · refine (refPart_bad t s v W hb).mono fun e W' ⟨he, hw⟩ => ?_
      subst hw; exact ⟨he, Below.refl _ _⟩
    · refine (part_bad t s v W hb).mono fun e W' ⟨he, hw⟩ => ?_
      subst hw; exact ⟨he, Below.refl _ _⟩
theorem parse_pair (s : ByteArray) (hs : s.size ≤ 100) : PairOK 12 13 #[.string s] := by
  rcases h : parsed s.data.toList with _ | n
  · exact ⟨0, 3, .iface 23 (.int .i64 3), fun W hg => refParse_bad s W hg hs h, fun W _ => parse_bad s W (by unfold maxLen; omega) h, bare_errno' 3⟩
  · exact ⟨n, 0, .nilIface, fun W hg => refParse_ok s n W hg h, fun W _ => parse_ok s n W h, bare_nil'⟩
/-- A slice of just these numbers. -/
def IsInts (W : World) (v : Value) (xs : List Int) : Prop := ∃ ao c, v = .slice ao xs.length c ∧ Row W ao xs
theorem IsInts.below {W W' : World} {v : Value} {xs : List Int} (h : IsInts W v xs) (hb : Below W.heap.size W W') : IsInts W' v xs := by
  obtain ⟨ao, c, rfl, hr⟩ := h
  exact ⟨ao, c, rfl, hr.below hb⟩
theorem spread_pair (t : Int) (ao : Option Addr) (cap : Nat) (zs : List Int) (hl : zs.length ≤ 60) : ∃ (xs : List Int) (k : Int) (ev : Value), xs.length ≤ 60 ∧
    (∀ W, Glob W → Row W ao zs → Calls Tryz.prog 7 #[.int .i64 t, .slice ao zs.length cap] W fun e W' => ∃ v, e = .returned (.tuple #[v, .int .i64 k]) ∧ IsInts W' v xs ∧ Below W.heap.size W W') ∧
    (∀ W, Glob W → Row W ao zs → Calls Tryz.prog 8 #[.int .i64 t, .slice ao zs.length cap] W fun e W' => ∃ v, e = .returned (.tuple #[v, ev]) ∧ IsInts W' v xs ∧ Below W.heap.size W W') ∧
    (∀ W, Glob W → Calls Tryz.prog 6 #[ev, .int .i64 k] W fun e W' => e = .returned (.bool true) ∧ Below W.heap.size W W') := by
  by_cases h : togB zs = true ∧ 0 ≤ t ∧ t ≤ 1000000000000
  · obtain ⟨hg, h0, h1⟩ := h
    refine ⟨spr t zs, 0, .nilIface, by rw [spr_length]; exact hl, fun W hgl hr => ?_, fun W hgl hr => ?_, bare_nil'⟩
    · refine (refSpread_ok t ao cap zs W hgl hr hl h0 h1 hg).mono fun e W' ⟨g, c, he, hrow, hb⟩ => ?_
      exact ⟨_, he, ⟨some g, c, by rw [spr_length], hrow⟩, hb⟩
    · refine (spread_ok t ao cap zs W hr hl h0 h1 hg).mono fun e W' ⟨g, he, hrow, hb⟩ => ?_
      exact ⟨_, he, ⟨some g, zs.length, by rw [spr_length], hrow⟩, hb⟩
  · have hb : togB zs = false ∨ t < 0 ∨ 1000000000000 < t := by
      by_cases hg : togB zs = true
      · right
        have : ¬ (0 ≤ t ∧ t ≤ 1000000000000) := fun hh => h ⟨hg, hh⟩
        omega
      · left; simpa using hg
    refine ⟨[], 1, .iface 23 (.int .i64 1), by simp, fun W hgl hr => ?_, fun W hgl hr => ?_, bare_errno' 1⟩
    · refine (refSpread_bad t ao cap zs W hr hl hb).mono fun e W' ⟨he, hw⟩ => ?_
      subst hw; exact ⟨_, he, ⟨none, 0, rfl, .inl rfl⟩, Below.refl _ _⟩
    · refine (spread_bad t ao cap zs W hr hl hb).mono fun e W' ⟨he, hw⟩ => ?_
      subst hw; exact ⟨_, he, ⟨none, 0, rfl, .inl rfl⟩, Below.refl _ _⟩
set_option maxHeartbeats 4000000 in
set_option maxRecDepth 20000 in
theorem parts_walk (t s v : Int) (ao : Option Addr) (cap : Nat) (zs : List Int) (x : ByteArray) (w : World) (hg : Glob w) (hr : Row w ao zs) (hzs : zs.length ≤ maxLen) (hx : x.size ≤ maxLen) (t0 : -9223372036854775808 ≤ t) (t1 : t ≤ 9223372036854775807) :
    Calls Tryz.prog 3 #[.int .i64 t, .int .i64 s, .int .i64 v, .slice ao zs.length cap, .string x] w fun e w' => e = .returned (.bool true) ∧ Below w.heap.size w w' := by
  unfold maxLen at hzs hx
  by_cases h60 : zs.length ≤ 60
  · by_cases h100 : x.size ≤ 100
    · obtain ⟨m1, k1, e1, a1, a2, a3⟩ := part_pair t s v
      obtain ⟨xs, k2, e2, hxs, b1, b2, b3⟩ := spread_pair t ao cap zs h60
      obtain ⟨m3, k3, e3, c1, c2, c3⟩ := parse_pair x h100
      have HA1 := hid a1
      have HA2 := hid a2
      have HA3 := hid a3
      have HB1 := hid b1
      have HB2 := hid b2
      have HB3 := hid b3
      have HC1 := hid c1
      have HC2 := hid c2
      have HC3 := hid c3
      have HG := hid hg
      have HR := hid hr
      clear a1 a2 a3 b1 b2 b3 c1 c2 c3 hg hr
      go_enter Tryz.func3, Tryz.ntmps3
      go_wp2_with fail
      refine (HA1.out _ HG.out).mono ?_
      rintro e w1 ⟨rfl, d1⟩
      go_wp2_with fail
      have HG1 := hid (HG.out.below d1)
      refine (HA2.out _ HG1.out).mono ?_
      rintro e w2 ⟨rfl, d2'⟩
      have d2 := d1.trans (d2'.mono d1.size)
      clear d1 d2' HG1 HA1 HA2
      go_wp2_with fail
      have HG2 := hid (HG.out.below d2)
      refine (HA3.out _ HG2.out).mono ?_
      rintro e w3 ⟨rfl, d3'⟩
      have d3 := d2.trans (d3'.mono d2.size)
      clear d2 d3' HG2 HA3
      go_wp2_with fail
      have HG3 := hid (HG.out.below d3)
      refine (HB1.out _ HG3.out (HR.out.below d3)).mono ?_
      rintro e w4 ⟨l1, rfl, il1, d4'⟩
      have d4 := d3.trans (d4'.mono d3.size)
      clear d3 d4' HG3 HB1
      obtain ⟨ao1, cap1, rfl, row1⟩ := il1
      have HL1 := hid row1
      clear row1
      go_wp2_with fail
      have HG4 := hid (HG.out.below d4)
      refine (HB2.out _ HG4.out (HR.out.below d4)).mono ?_
      rintro e w5 ⟨l2, rfl, il2, d5'⟩
      have d5 := d4.trans (d5'.mono d4.size)
      have HL2 := hid (HL1.out.below d5')
      clear d4 d5' HG4 HB2 HL1 HR
      obtain ⟨ao2, cap2, rfl, row2⟩ := il2
      have HL3 := hid row2
      clear row2
      go_wp2_with fail
      have HG5 := hid (HG.out.below d5)
      refine (HB3.out _ HG5.out).mono ?_
      rintro e w6 ⟨rfl, d6'⟩
      have d6 := d5.trans (d6'.mono d5.size)
      have HL4 := hid (HL2.out.below d6')
      have HL5 := hid (HL3.out.below d6')
      clear d5 d6' HG5 HB3 HL2 HL3
      go_wp2_with fail
      refine (sameInts_yes ao2 ao1 cap2 cap1 xs _ HL5.out HL4.out hxs).mono ?_
      rintro e w7 ⟨rfl, n7, hw7⟩
      have d7 : Below w.heap.size w w7 := by subst hw7; exact below_drewN d6 n7
      clear d6 hw7 HL4 HL5
      go_wp2_with fail
      refine (print_any t _ t0 t1).mono ?_
      rintro e w8 ⟨rfl, d8'⟩
      have d8 := d7.trans (d8'.mono d7.size)
      clear d7 d8'
      go_wp2_with fail
      have HG8 := hid (HG.out.below d8)
      refine (amount_any t _ HG8.out t0 t1).mono ?_
      rintro e w9 ⟨rfl, d9'⟩
      have d9 := d8.trans (d9'.mono d8.size)
      clear d8 d9' HG8
      have hcmp : ((strOfNums (amt t)).toList == byt (amt t)) = true := by
        rw [ByteArray.toList_eq]; exact beq_self_eq_true _
      go_wp2_with fail
      have HG9 := hid (HG.out.below d9)
      refine (HC1.out _ HG9.out).mono ?_
      rintro e w10 ⟨rfl, d10'⟩
      have d10 := d9.trans (d10'.mono d9.size)
      clear d9 d10' HG9 HC1 hcmp
      go_wp2_with fail
      have HG10 := hid (HG.out.below d10)
      refine (HC2.out _ HG10.out).mono ?_
      rintro e w11 ⟨rfl, d11'⟩
      have d11 := d10.trans (d11'.mono d10.size)
      clear d10 d11' HG10 HC2
      go_wp2_with fail
      have HG11 := hid (HG.out.below d11)
      refine (HC3.out _ HG11.out).mono ?_
      rintro e w12 ⟨rfl, d12'⟩
      have d12 := d11.trans (d12'.mono d11.size)
      clear d11 d12' HG11 HC3
      go_wp2
      go_ret
      exact ⟨rfl, d12⟩
    · go_enter Tryz.func3, Tryz.ntmps3
      go_wp2
      go_ret
      exact ⟨rfl, Below.refl _ _⟩
  · go_enter Tryz.func3, Tryz.ntmps3
    go_wp2
    go_ret
    exact ⟨rfl, Below.refl _ _⟩
end Go.Proofs.YtkaihegdjhcflaaGreatDoor
