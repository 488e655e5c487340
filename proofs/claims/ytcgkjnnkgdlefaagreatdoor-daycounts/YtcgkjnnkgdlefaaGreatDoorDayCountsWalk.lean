/- The walk of tallymanlaw.DayCounts: it returns true. -/
import Derived.Test.YtcgkjnnkgdlefaaGreatDoorRefDateRead
namespace Go.Proofs.YtcgkjnnkgdlefaaGreatDoor
open Go.RowKit
/-- What the walks ask of the package-level variables. -/
def GlobD (w : World) : Prop := Glob w ∧ LenTab w
theorem GlobD.below {w w' : World} (h : GlobD w) (hb : Below w.heap.size w w') : GlobD w' := ⟨h.1.below hb, h.2.below hb⟩
/-- Two functions give the same values, and the second's error is the first's. -/
def PairV (fr fm : Nat) (args : Array Value) (T : Value → Value) : Prop := ∃ (k : Int) (ev : Value),
  (∀ W, GlobD W → Calls Tryz.prog fr args W fun e W' => e = .returned (T (.int .i64 k)) ∧ Below W.heap.size W W') ∧
  (∀ W, GlobD W → Calls Tryz.prog fm args W fun e W' => e = .returned (T ev) ∧ Below W.heap.size W W') ∧
  (∀ W, GlobD W → Calls Tryz.prog 7 #[ev, .int .i64 k] W fun e W' => e = .returned (.bool true) ∧ Below W.heap.size W W')
theorem still {P : Program} {f : Nat} {args : Array Value} {w : World} {v : Value} (h : Calls P f args w fun e w' => e = .returned v ∧ w' = w) : Calls P f args w fun e w' => e = .returned v ∧ Below w.heap.size w w' :=
  h.mono fun e w' ⟨he, hw⟩ => ⟨he, by subst hw; exact Below.refl _ _⟩
theorem bn (W : World) (_ : GlobD W) : Calls Tryz.prog 7 #[.nilIface, .int .i64 0] W fun e W' => e = .returned (.bool true) ∧ Below W.heap.size W W' := bare_nil W
theorem be (k : Int) (W : World) (h : GlobD W) : Calls Tryz.prog 7 #[.iface 23 (.int .i64 k), .int .i64 k] W fun e W' => e = .returned (.bool true) ∧ Below W.heap.size W W' := bare_errno k W h.1.et
theorem of_pair (y m d : Int) : ∃ a, PairV 15 16 #[.int .i64 y, .int .i64 m, .int .i64 d] (fun v => .tuple #[.int .i64 a, v]) := by
  rcases h : ofDay y m d with _ | n
  · exact ⟨0, 1, .iface 23 (.int .i64 1), fun W _ => still (rday_bad y m d W h), fun W hg => still (of_bad y m d W hg.2 h), be 1⟩
  · exact ⟨n, 0, .nilIface, fun W _ => still (rday_ok y m d n W h), fun W hg => still (of_ok y m d n W hg.2 h), bn⟩
theorem parts_pair (n : Int) : ∃ a b c, PairV 17 18 #[.int .i64 n] (fun v => .tuple #[.int .i64 a, .int .i64 b, .int .i64 c, v]) := by
  by_cases h : 0 ≤ n ∧ n ≤ 99999
  · exact ⟨_, _, _, 0, .nilIface, fun W _ => still (rparts_ok n W h.1 h.2), fun W hg => still (dparts_ok n W hg.2 h.1 h.2), bn⟩
  · exact ⟨0, 0, 0, 1, .iface 23 (.int .i64 1), fun W _ => still (rparts_bad n W (by omega)), fun W _ => still (dparts_bad n W (by omega)), be 1⟩
theorem month_pair (n : Int) : ∃ a, PairV 19 20 #[.int .i64 n] (fun v => .tuple #[.int .i64 a, v]) := by
  by_cases h : 0 ≤ n ∧ n ≤ 99999
  · exact ⟨_, 0, .nilIface, fun W _ => still (rmonth_ok n W h.1 h.2), fun W hg => still (dmonth_ok n W hg.2 h.1 h.2), bn⟩
  · exact ⟨0, 1, .iface 23 (.int .i64 1), fun W _ => still (rmonth_bad n W (by omega)), fun W _ => still (dmonth_bad n W (by omega)), be 1⟩
theorem last_pair (n : Int) : ∃ a, PairV 21 22 #[.int .i64 n] (fun v => .tuple #[.int .i64 a, v]) := by
  rcases h : lastDay n with _ | k
  · exact ⟨0, 1, .iface 23 (.int .i64 1), fun W _ => still (rlast_none n W h), fun W hg => still (last_none n W hg.2 h), be 1⟩
  · exact ⟨k, 0, .nilIface, fun W _ => still (rlast_some n k W h), fun W hg => still (last_some n k W hg.2 h), bn⟩
theorem print_pair (n : Int) : ∃ a, PairV 23 24 #[.int .i64 n] (fun v => .tuple #[.string a, v]) := by
  by_cases h : 0 ≤ n ∧ n ≤ 99999
  · exact ⟨_, 0, .nilIface, fun W hg => rdate_ok n W hg.1 h.1 h.2, fun W hg => dprint_ok n W hg.2 h.1 h.2, bn⟩
  · exact ⟨_, 1, .iface 23 (.int .i64 1), fun W _ => still (rdate_bad n W (by omega)), fun W _ => still (dprint_bad n W (by omega)), be 1⟩
theorem read_pair (s : ByteArray) (hs : s.size ≤ 100) : ∃ a, PairV 25 26 #[.string s] (fun v => .tuple #[.int .i64 a, v]) := by
  rcases h : dparsed s.data.toList with _ | n
  · exact ⟨0, 3, .iface 23 (.int .i64 3), fun W hg => rparse_bad s W hg.1 hs h, fun W hg => dparse_bad s W hg.2 (by unfold maxLen; omega) h, be 3⟩
  · exact ⟨n, 0, .nilIface, fun W hg => rparse_ok s n W hg.1 h, fun W hg => dparse_ok s n W hg.2 h, bn⟩
theorem beq_self (x : ByteArray) : (x.toList == x.toList) = true := beq_self_eq_true _
set_option maxHeartbeats 4000000 in
set_option maxRecDepth 20000 in
theorem counts_walk (y m d n : Int) (s : ByteArray) (w : World) (hg : GlobD w) (hx : s.size ≤ maxLen) :
    Calls Tryz.prog 4 #[.int .i64 y, .int .i64 m, .int .i64 d, .int .i64 n, .string s] w fun e w' => e = .returned (.bool true) ∧ Below w.heap.size w w' := by
  unfold maxLen at hx
  by_cases h100 : s.size ≤ 100
  · obtain ⟨a1, k1, e1, p1, q1, r1⟩ := of_pair y m d
    obtain ⟨a2, b2, c2, k2, e2, p2, q2, r2⟩ := parts_pair n
    obtain ⟨a3, k3, e3, p3, q3, r3⟩ := month_pair n
    obtain ⟨a4, k4, e4, p4, q4, r4⟩ := last_pair n
    obtain ⟨a5, k5, e5, p5, q5, r5⟩ := print_pair n
    obtain ⟨a6, k6, e6, p6, q6, r6⟩ := read_pair s h100
    have hself := beq_self a5
    dsimp only at p1 q1 p2 q2 p3 q3 p4 q4 p5 q5 p6 q6
    have P1 := hid p1
    have Q1 := hid q1
    have R1 := hid r1
    have P2 := hid p2
    have Q2 := hid q2
    have R2 := hid r2
    have P3 := hid p3
    have Q3 := hid q3
    have R3 := hid r3
    have P4 := hid p4
    have Q4 := hid q4
    have R4 := hid r4
    have P5 := hid p5
    have Q5 := hid q5
    have R5 := hid r5
    have P6 := hid p6
    have Q6 := hid q6
    have R6 := hid r6
    clear p1 q1 r1 p2 q2 r2 p3 q3 r3 p4 q4 r4 p5 q5 r5 p6 q6 r6
    have HG := hid hg
    clear hg
    have d0 := Below.refl w.heap.size w
    go_enter Tryz.func4, Tryz.ntmps4
    go_wp2_with fail
    have G0 := hid (HG.out.below d0)
    refine (P1.out _ G0.out).mono ?_
    rintro e w1 ⟨rfl, f1⟩
    have d1 := d0.trans (f1.mono d0.size)
    clear d0 f1 G0 P1
    go_wp2_with fail
    have G1 := hid (HG.out.below d1)
    refine (Q1.out _ G1.out).mono ?_
    rintro e w2 ⟨rfl, f2⟩
    have d2 := d1.trans (f2.mono d1.size)
    clear d1 f2 G1 Q1
    go_wp2_with fail
    have G2 := hid (HG.out.below d2)
    refine (R1.out _ G2.out).mono ?_
    rintro e w3 ⟨rfl, f3⟩
    have d3 := d2.trans (f3.mono d2.size)
    clear d2 f3 G2 R1
    go_wp2_with fail
    have G3 := hid (HG.out.below d3)
    refine (P2.out _ G3.out).mono ?_
    rintro e w4 ⟨rfl, f4⟩
    have d4 := d3.trans (f4.mono d3.size)
    clear d3 f4 G3 P2
    go_wp2_with fail
    have G4 := hid (HG.out.below d4)
    refine (Q2.out _ G4.out).mono ?_
    rintro e w5 ⟨rfl, f5⟩
    have d5 := d4.trans (f5.mono d4.size)
    clear d4 f5 G4 Q2
    go_wp2_with fail
    have G5 := hid (HG.out.below d5)
    refine (R2.out _ G5.out).mono ?_
    rintro e w6 ⟨rfl, f6⟩
    have d6 := d5.trans (f6.mono d5.size)
    clear d5 f6 G5 R2
    go_wp2_with fail
    have G6 := hid (HG.out.below d6)
    refine (P3.out _ G6.out).mono ?_
    rintro e w7 ⟨rfl, f7⟩
    have d7 := d6.trans (f7.mono d6.size)
    clear d6 f7 G6 P3
    go_wp2_with fail
    have G7 := hid (HG.out.below d7)
    refine (Q3.out _ G7.out).mono ?_
    rintro e w8 ⟨rfl, f8⟩
    have d8 := d7.trans (f8.mono d7.size)
    clear d7 f8 G7 Q3
    go_wp2_with fail
    have G8 := hid (HG.out.below d8)
    refine (R3.out _ G8.out).mono ?_
    rintro e w9 ⟨rfl, f9⟩
    have d9 := d8.trans (f9.mono d8.size)
    clear d8 f9 G8 R3
    go_wp2_with fail
    have G9 := hid (HG.out.below d9)
    refine (P4.out _ G9.out).mono ?_
    rintro e w10 ⟨rfl, f10⟩
    have d10 := d9.trans (f10.mono d9.size)
    clear d9 f10 G9 P4
    go_wp2_with fail
    have G10 := hid (HG.out.below d10)
    refine (Q4.out _ G10.out).mono ?_
    rintro e w11 ⟨rfl, f11⟩
    have d11 := d10.trans (f11.mono d10.size)
    clear d10 f11 G10 Q4
    go_wp2_with fail
    have G11 := hid (HG.out.below d11)
    refine (R4.out _ G11.out).mono ?_
    rintro e w12 ⟨rfl, f12⟩
    have d12 := d11.trans (f12.mono d11.size)
    clear d11 f12 G11 R4
    go_wp2_with fail
    have G12 := hid (HG.out.below d12)
    refine (P5.out _ G12.out).mono ?_
    rintro e w13 ⟨rfl, f13⟩
    have d13 := d12.trans (f13.mono d12.size)
    clear d12 f13 G12 P5
    go_wp2_with fail
    have G13 := hid (HG.out.below d13)
    refine (Q5.out _ G13.out).mono ?_
    rintro e w14 ⟨rfl, f14⟩
    have d14 := d13.trans (f14.mono d13.size)
    clear d13 f14 G13 Q5
    go_wp2_with fail
    have G14 := hid (HG.out.below d14)
    refine (R5.out _ G14.out).mono ?_
    rintro e w15 ⟨rfl, f15⟩
    have d15 := d14.trans (f15.mono d14.size)
    clear d14 f15 G14 R5
    go_wp2_with fail
    have G15 := hid (HG.out.below d15)
    refine (P6.out _ G15.out).mono ?_
    rintro e w16 ⟨rfl, f16⟩
    have d16 := d15.trans (f16.mono d15.size)
    clear d15 f16 G15 P6
    go_wp2_with fail
    have G16 := hid (HG.out.below d16)
    refine (Q6.out _ G16.out).mono ?_
    rintro e w17 ⟨rfl, f17⟩
    have d17 := d16.trans (f17.mono d16.size)
    clear d16 f17 G16 Q6
    go_wp2_with fail
    have G17 := hid (HG.out.below d17)
    refine (R6.out _ G17.out).mono ?_
    rintro e w18 ⟨rfl, f18⟩
    have d18 := d17.trans (f18.mono d17.size)
    clear d17 f18 G17 R6
    go_wp2
    go_ret
    exact ⟨rfl, d18⟩
  · go_enter Tryz.func4, Tryz.ntmps4
    go_wp2
    go_ret
    exact ⟨rfl, Below.refl _ _⟩
end Go.Proofs.YtcgkjnnkgdlefaaGreatDoor
