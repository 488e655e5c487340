/- The walk of tallymanlaw.LedgerPosts. -/
import Derived.Test.YtcfgacdcgljbaaaGreatDoorRlPars
import Derived.Test.YtcfgacdcgljbaaaGreatDoorLedParse
import Derived.Test.YtcfgacdcgljbaaaGreatDoorLedPrint
import Derived.Test.YtcfgacdcgljbaaaGreatDoorRlTrS
import Derived.Test.YtcfgacdcgljbaaaGreatDoorRlSort
import Derived.Test.YtcfgacdcgljbaaaGreatDoorErrPlace
import Derived.Test.YtcfgacdcgljbaaaGreatDoorPstsOpen
namespace Go.Proofs.YtcfgacdcgljbaaaGreatDoor
open Go.RowKit
/-- What the listed variables hold. -/
structure GlobL (w : World) : Prop where
  glob : Glob w
  led : LedG w
  fine : FineAt w
theorem GlobL.below {w w' : World} (h : GlobL w) (hb : Below w.heap.size w w') : GlobL w' := ⟨h.glob.below hb, h.led.below hb, h.fine.below hb⟩
/-- The least of five. -/
def min5 (a b c d e : Int) : Int :=
  let x := if b < a then b else a
  let y := if c < x then c else x
  let z := if d < y then d else y
  if e < z then e else z
theorem run_min5 (P : Program) (w : World) (ts : Array TypeId) (t : TypeId) (a b c d e : Int) : (Builtin.min_ ts t #[.int .i64 a, .int .i64 b, .int .i64 c, .int .i64 d, .int .i64 e]).run P w = .ok (.int .i64 (min5 a b c d e)) w := by
  simp [Builtin.min_, Builtin.min2, min5]
theorem PstsAt.of_ownR {w : World} {B : Nat} {v : Value} {ps : List Pst} (h : w.ownsRow B 159 3 v ps.length (ps.flatMap pstC)) : PstsAt w v ps := by
  rcases own_form h with ⟨hv, hn, _⟩ | ⟨g, cap, hv, _, hgl, _⟩
  · exact Or.inl ⟨hv, List.length_eq_zero_iff.1 hn⟩
  · subst hv
    exact Or.inr ⟨g, 0, cap, rfl, hgl, fun k j hk hj => by rw [Nat.zero_add]; exact (own_cell pstC_len h k j hk hj).1⟩
theorem own_lenK {w : World} {B : Nat} {T : TypeId} {m n : Nat} {v : Value} {xs : List Value} (h : w.ownsRow B T m v n xs) : ∃ ad cap, v = .slice ad n cap := by
  rcases own_form h with ⟨hv, hn, _⟩ | ⟨g, cap, hv, _⟩
  · exact ⟨none, 0, by rw [hv, hn]⟩
  · exact ⟨_, _, hv⟩
theorem blcC_len (f : ByteArray → Int) (k : ByteArray) : (blcC f k).length = 2 := rfl
theorem neq_rbl (a : ByteArray) (c : Int) (w : World) : (binOp BinOp.neq 88 (.agg #[.string a, .int .i64 c]) (.agg #[.string a, .int .i64 c])).run Tryz.prog w = .ok (.bool false) w := by
  have hS : Tryz.prog.underlying 88 = some (.struct (Tryz.prog.fieldsOf 88)) := by kernel_rfl
  have hp : Tryz.prog.stoodInHeld 88 = false := by kernel_rfl
  have u3 := Tryz.underlying3
  have a3 := Tryz.isAgg3
  have z3 := Tryz.sizeOf3
  have u4 := Tryz.underlying9
  have a4 := Tryz.isAgg9
  have z4 := Tryz.sizeOf9
  rw [run_neq_struct, show (10000 : Nat) = 9999 + 1 from rfl, run_equalIn_agg w 9999 88 _ _ hS hp]
  simp only [Program.fieldsOf, Tryz.underlying88]
  go_simp
set_option maxRecDepth 100000 in
set_option maxHeartbeats 8000000 in
theorem ledgerPosts_walk (f : Fig) (v : Value) (ps : List Pst) (s : ByteArray) (w : World) (hg : GlobL w) (h : PstsAt w v ps) (hp : ∀ p ∈ ps, PstW p) (_ : ps.length ≤ maxLen) (_ : s.size ≤ maxLen) :
    Calls Tryz.prog 4 #[figV f, v, .string s] w fun r w' => r = .returned (.bool true) ∧ Below w.heap.size w w' := by
  have f1 : ∃ ad c, v = .slice ad ps.length c := by
    rcases h with ⟨e, e2⟩ | ⟨g, o, c, e, _⟩
    · exact ⟨none, 0, by rw [e, e2]; rfl⟩
    · exact ⟨_, _, e⟩
  obtain ⟨ad1, cp1, rfl⟩ := f1
  have H : Hid (PstsAt w (.slice ad1 ps.length cp1) ps) := h
  have HG := hidP hg
  have HP := hidP hp
  have hPo := hidP (fun W : World => post_any f W)
  have hRo := hidP (fun W : World => rpost_any f W)
  have HPL := hidP (postL_len f)
  clear h hg hp
  obtain ⟨pl, hpl⟩ : ∃ l, l = postL f := ⟨_, rfl⟩
  rw [← hpl] at hPo hRo HPL
  unfold figV at hPo hRo ⊢
  clear hpl
  obtain ⟨a1, a2, a3, a4, a5⟩ := f
  simp only at hPo hRo ⊢
  obtain ⟨w1, hw1⟩ : ∃ W, W = w.alloc (.cells #[.int .i64 a1, .int .i64 a2, .int .i64 a3, .int .i64 a4, .int .i64 a5] 38) := ⟨_, rfl⟩
  have hb1 : Below w.heap.size w w1 := by rw [hw1]; exact (Below.refl _ _).alloc (Nat.le_refl _) _
  have c0 : w1.cell? ⟨w.heap.size, 0, none⟩ = some (.int .i64 a1) := by rw [hw1]; simp
  have c1 : w1.cell? ⟨w.heap.size, 1, none⟩ = some (.int .i64 a2) := by rw [hw1]; simp
  have c2 : w1.cell? ⟨w.heap.size, 2, none⟩ = some (.int .i64 a3) := by rw [hw1]; simp
  have c3 : w1.cell? ⟨w.heap.size, 3, none⟩ = some (.int .i64 a4) := by rw [hw1]; simp
  have c4 : w1.cell? ⟨w.heap.size, 4, none⟩ = some (.int .i64 a5) := by rw [hw1]; simp
  have HW1 := hidP hw1
  have HB1 := hidP hb1
  have HC := hidP (And.intro c0 (And.intro c1 (And.intro c2 (And.intro c3 c4))))
  have H1 : Hid (PstsAt w1 (.slice ad1 ps.length cp1) ps) := H.out.below hb1
  clear hw1 hb1 c0 c1 c2 c3 c4
  by_cases hl : ps.length ≤ 30
  rotate_left
  · have hl' : (30 : Int) < (ps.length : Int) := by omega
    go_enter Tryz.func4, Tryz.ntmps4
    go_wp2
    rw [← HW1.out]
    go_ret
    exact ⟨rfl, HB1.out⟩
  by_cases hsz : s.size ≤ 600
  rotate_left
  · have hl' : ¬ (30 : Int) < (ps.length : Int) := by omega
    have hs' : (600 : Int) < (s.size : Int) := by omega
    go_enter Tryz.func4, Tryz.ntmps4
    go_wp2
    rw [← HW1.out]
    go_ret
    exact ⟨rfl, HB1.out⟩
  have hl' : ¬ (30 : Int) < (ps.length : Int) := by omega
  have hs' : ¬ (600 : Int) < (s.size : Int) := by omega
  go_enter Tryz.func4, Tryz.ntmps4
  go_wp2
  rw [← HW1.out]
  go_loopw [7] (fun i wr => ∃ k : Nat, k ≤ ps.length ∧ i = .int .i64 k ∧ Hid (∀ p ∈ ps.take k, p.deb.size ≤ 60 ∧ p.cre.size ≤ 60) ∧ wr = w1) (fun i _ => ps.length - (intOf i).toNat)
  case atStart => exact ⟨0, Nat.zero_le _, rfl, (fun t ht => by simp at ht), rfl⟩
  case round =>
    obtain ⟨k, hk, rfl, HS, hwr⟩ := hrel
    subst hwr
    by_cases hlt : k < ps.length
    · rcases H1.out with ⟨_, e2⟩ | ⟨g, o, c, e1, hgl, p⟩
      · rw [e2] at hlt; exact absurd hlt (Nat.not_lt_zero _)
      simp only [Value.slice.injEq] at e1
      obtain ⟨rfl, _, rfl⟩ := e1
      have p0 := p k 0 hlt (by omega)
      have p1 := p k 1 hlt (by omega)
      have HTK : Hid (ps.take (k + 1) = ps.take k ++ [ps[k]]) := List.take_succ_eq_append_getElem hlt
      clear p
      generalize ps[k] = y at p0 p1 HTK
      obtain ⟨d, c, n⟩ := y
      simp only [pstC, List.getElem?_cons_zero, List.getElem?_cons_succ, Nat.add_zero] at p0 p1
      by_cases hd : d.size ≤ 60
      rotate_left
      · have hd' : (60 : Int) < (d.size : Int) := by omega
        go_wp2
        go_ret
        exact ⟨rfl, HB1.out⟩
      have hd' : ¬ (60 : Int) < (d.size : Int) := by omega
      by_cases hc : c.size ≤ 60
      rotate_left
      · have hc' : (60 : Int) < (c.size : Int) := by omega
        go_wp2
        go_ret
        exact ⟨rfl, HB1.out⟩
      have hc' : ¬ (60 : Int) < (c.size : Int) := by omega
      go_wp2
      go_roundw
      case rel =>
        refine ⟨k + 1, by omega, by go_num, ?_, by first | rfl | trivial⟩
        intro x hx
        rw [HTK.out] at hx
        rcases List.mem_append.1 hx with h | h
        · exact HS.out x h
        · rw [List.mem_singleton] at h; subst h; exact ⟨hd, hc⟩
      case measure => simp [intOf]; omega
    · obtain rfl : k = ps.length := by omega
      rw [List.take_length] at HS
      obtain ⟨mn, hmn⟩ : ∃ m, m = min5 a1 a2 a3 a4 a5 := ⟨_, rfl⟩
      have hmin := fun (W : World) (ts : Array TypeId) (t : TypeId) => run_min5 Tryz.prog W ts t a1 a2 a3 a4 a5
      rw [← hmn] at hmin
      clear hmn
      obtain ⟨c0, c1, c2, c3, c4⟩ := HC.out
      by_cases hmm : mn < -4611686018427387904
      · go_wp2
        go_ret
        exact ⟨rfl, HB1.out⟩
      have HPZ : Hid (∀ p ∈ ps, I64 p.amt ∧ p.deb.size ≤ 1000 ∧ p.cre.size ≤ 1000) := fun p hp => ⟨(HP.out p hp).amt, by have := (HS.out p hp).1; omega, by have := (HS.out p hp).2; omega⟩
      go_wp2_with fail
      refine wp_region_mix [(true, 0), (true, 2), (false, 1), (false, 3), (false, 4), (true, 5), (true, 6), (true, 7), (true, 9), (false, 8), (false, 10), (false, 11), (true, 12), (true, 13)] (by kernel_rfl) (by kernel_rfl) ?_
      have hU := up_ne
      obtain ⟨W2, hW2⟩ : ∃ W, W = wr.drew := ⟨_, rfl⟩
      rw [← hW2]
      have hb2 : Below wr.heap.size wr W2 := by rw [hW2]; exact below_drew _
      have y0 := fun n : Up W2 => n.cell (below_cellL hb2 c0)
      have y1 := fun n : Up W2 => n.cell (below_cellL hb2 c1)
      have y2 := fun n : Up W2 => n.cell (below_cellL hb2 c2)
      have y3 := fun n : Up W2 => n.cell (below_cellL hb2 c3)
      have y4 := fun n : Up W2 => n.cell (below_cellL hb2 c4)
      have HB2 : Hid (Below w.heap.size w W2) := HB1.out.trans (hb2.mono HB1.out.size)
      clear c0 c1 c2 c3 c4 hW2 hb2 hmin
      repeat (refine mix_q rfl ?_; go_big_quiet_step (fail); refine wpQuiet_nil ?_)
      refine mix_n rfl ?_
      clear y0 y1 y2 y3 y4
      go_wp2_with fail
      refine (hPo.out W2).mono ?_
      rintro r W3 ⟨v3, rfl, hown3, hb3⟩
      have HB3 : Hid (Below w.heap.size w W3) := HB2.out.trans (hb3.mono HB2.out.size)
      obtain ⟨ad3, n3, cp3, hv3⟩ := own_lenL hown3
      subst hv3
      have HA3 := hidP (PstsAt.of_own hown3)
      go_wp2_with fail
      refine ⟨rfl, hb3, ?_⟩
      clear hb3 hown3
      refine mix_n rfl ?_
      go_wp2_with fail
      refine (hRo.out W3).mono ?_
      rintro r W4 ⟨v4, rfl, hown4, hb4⟩
      have HB4 : Hid (Below w.heap.size w W4) := HB3.out.trans (hb4.mono HB3.out.size)
      obtain ⟨ad4, n4, cp4, hv4⟩ := own_lenL hown4
      subst hv4
      have HA4 := hidP (PstsAt.of_ownR hown4)
      have HA34 := hidP (HA3.out.below hb4)
      go_wp2_with fail
      refine ⟨rfl, hb4, ?_⟩
      clear hb4 hown4
      refine mix_n rfl ?_
      have hsm := samePst_any pl _ _ W4 HA34.out HA4.out (by have := HPL.out; omega)
      go_wp2_with fail
      refine hsm.mono ?_
      rintro r W5 ⟨rfl, j5, hw5⟩
      have hb5 : Below W4.heap.size W4 W5 := by rw [hw5]; exact ⟨rfl, rfl, rfl, Nat.le_refl _, fun _ _ => rfl⟩
      have HB5 : Hid (Below w.heap.size w W5) := HB4.out.trans (hb5.mono HB4.out.size)
      clear hsm hw5
      go_wp2_with fail
      refine ⟨rfl, hb5, ?_⟩
      clear hb5
      repeat (refine mix_q rfl ?_; go_big_quiet_step (fail); refine wpQuiet_nil ?_)
      refine mix_n rfl ?_
      have HA5 := hidP (H.out.below HB5.out)
      have hpr := lprint_any ps _ W5 HA5.out (by omega) HPZ.out
      obtain ⟨tx, htx⟩ : ∃ t : ByteArray, t = ⟨(printL ps).toArray⟩ := ⟨_, rfl⟩
      rw [← htx] at hpr
      have HTX := hidP htx
      clear htx
      go_wp2_with fail
      refine hpr.mono ?_
      rintro r W6 ⟨rfl, hb6⟩
      have HB6 : Hid (Below w.heap.size w W6) := HB5.out.trans (hb6.mono HB5.out.size)
      clear hpr
      go_wp2_with fail
      refine ⟨rfl, hb6, ?_⟩
      clear hb6
      refine mix_n rfl ?_
      have hpo := postings_any ps _ W6 (H.out.below HB6.out) (by omega)
      go_wp2_with fail
      refine hpo.mono ?_
      rintro r W7 ⟨v7, rfl, hown7, hb7⟩
      have HB7 : Hid (Below w.heap.size w W7) := HB6.out.trans (hb7.mono HB6.out.size)
      obtain ⟨ad7, n7, cp7, hv7⟩ := own_lenL hown7
      subst hv7
      have HA7 := hidP (PstsAt.of_ownR hown7)
      clear hpo
      go_wp2_with fail
      refine ⟨rfl, hb7, ?_⟩
      clear hb7 hown7
      refine mix_n rfl ?_
      have hrt := rtext_any ps _ W7 HA7.out (HG.out.glob.below HB7.out) (by omega) HPZ.out
      rw [← HTX.out] at hrt
      clear HTX
      go_wp2_with fail
      refine hrt.mono ?_
      rintro r W8 ⟨rfl, hb8⟩
      have HB8 : Hid (Below w.heap.size w W8) := HB7.out.trans (hb8.mono HB7.out.size)
      clear hrt
      go_wp2_with fail
      refine ⟨rfl, hb8, ?_⟩
      clear hb8
      have htt : (tx.toList == tx.toList) = true := by simp
      repeat (refine mix_q rfl ?_; go_big_quiet_step (fail); refine wpQuiet_nil ?_)
      refine mix_nil ?_
      have htri := trial_any ps _ W8 (H.out.below HB8.out) (by omega) (fun p hp => (HPZ.out p hp).2)
      go_wp2_with fail
      refine htri.mono ?_
      rintro r W9 ⟨v9, ks, rfl, hks, hown9, hb9⟩
      have HB9 : Hid (Below w.heap.size w W9) := HB8.out.trans (hb9.mono HB8.out.size)
      obtain ⟨ad9, cp9, hv9⟩ := own_lenK hown9
      subst hv9
      have hpo := postings_any ps _ W9 (H.out.below HB9.out) (by omega)
      clear htri
      go_wp2_with fail
      refine hpo.mono ?_
      rintro r Wa ⟨va, rfl, howna, hba⟩
      have HBa : Hid (Below w.heap.size w Wa) := HB9.out.trans (hba.mono HB9.out.size)
      obtain ⟨ada, na, cpa, hva⟩ := own_lenL howna
      subst hva
      have hrt := rtrial_any sortsB ps _ Wa (PstsAt.of_ownR howna) (by omega)
      clear hpo
      go_wp2_with fail
      refine hrt.mono ?_
      rintro r Wb ⟨vb, out, rfl, hownb, hgath, hso, hbb⟩
      have HBb : Hid (Below w.heap.size w Wb) := HBa.out.trans (hbb.mono HBa.out.size)
      have heq := gath_is hgath hso hks
      have hol : out.length = ks.length := by rw [heq, List.length_map]
      obtain ⟨adb, cpb, hvb⟩ := own_lenK hownb
      subst hvb
      have hOa : Wb.ownsRow W8.heap.size 89 2 (.slice ad9 ks.length cp9) ks.length (ks.flatMap (blcC fun k => bal k 0 ps)) := own_below (own_below hown9 hba (Nat.le_refl _)) hbb (Nat.le_refl _)
      have HOA := hidP hOa
      have HOB := hidP hownb
      have HEQ := hidP heq
      have HOL := hidP hol
      have hol1 : out.length ≤ ks.length := Nat.le_of_eq hol
      have hol2 : ks.length ≤ out.length := Nat.le_of_eq hol.symm
      have hkl : ks.length ≤ maxLen := by
        rcases own_form hOa with ⟨_, h0, _⟩ | ⟨g, cap, _, _, _, hn, hc⟩
        · rw [h0]; exact Nat.zero_le _
        · exact Nat.le_trans hn hc
      clear hrt hownb hgath hso hks hown9 howna hba hbb hb9 hOa heq hol
      have hkm : ks.length ≤ 9223372036854775807 := by unfold maxLen at hkl; exact hkl
      go_wp2_with fail
      clear HC H1 HB1 HW1
      go_loopw [11] (fun i wq => ∃ k : Nat, k ≤ ks.length ∧ i = .int .i64 k ∧ ∃ m, wq = Wb.drewN m) (fun i _ => ks.length - (intOf i).toNat)
      case atStart => exact ⟨0, Nat.zero_le _, rfl, 0, rfl⟩
      case round =>
        obtain ⟨k, hk, rfl, m0, hwr⟩ := hrel
        have HWR : Hid (wr = Wb.drewN m0) := hwr
        have hbd : Below Wb.heap.size Wb wr := by rw [hwr]; exact ⟨rfl, rfl, rfl, Nat.le_refl _, fun _ _ => rfl⟩
        clear hwr
        by_cases hlt : k < ks.length
        · rcases own_form (own_below HOA.out hbd (Nat.le_refl _)) with ⟨_, h0, _⟩ | ⟨g1, q1, e1, _, _, _⟩
          · omega
          rcases own_form (own_below HOB.out hbd (Nat.le_refl _)) with ⟨_, h0, _⟩ | ⟨g2, q2, e2, _, _, _⟩
          · omega
          simp only [Value.slice.injEq] at e1 e2
          obtain ⟨rfl, _, rfl⟩ := e1
          obtain ⟨rfl, _, rfl⟩ := e2
          have hA := own_below HOA.out hbd (Nat.le_refl _)
          have hBq := own_below HOB.out hbd (Nat.le_refl _)
          have p0 := (own_cell (blcC_len _) hA k 0 hlt (by decide)).1
          have p1 := (own_cell (blcC_len _) hA k 1 hlt (by decide)).1
          have t0 := (own_cell rblC_len hBq k 0 (by omega) (by decide)).1
          have t1 := (own_cell rblC_len hBq k 1 (by omega) (by decide)).1
          have hoe : out[k]'(by omega) = ⟨ks[k], bal ks[k] 0 ps⟩ := by
            have h := HEQ.out
            subst h
            simp
          rw [hoe] at t0 t1
          generalize ks[k] = x at p0 p1 t0 t1
          simp only [blcC, rblC, List.getElem?_cons_zero, List.getElem?_cons_succ, Nat.add_zero] at p0 p1 t0 t1
          have hne := neq_rbl x (bal x 0 ps)
          obtain ⟨bx, hbx⟩ : ∃ b, b = bal x 0 ps := ⟨_, rfl⟩
          rw [← hbx] at p1 t1 hne
          clear hbx hoe hA hBq
          have mixed : Tryz.prog.follows .mixedOrders = true := by kernel_rfl
          go_wp2_with fail
          go_quiet (fail)
          go_wp2
          go_roundw
          case rel => exact ⟨k + 1, by omega, by go_num, m0 + nq, by rw [HWR.out, World.drewN_drewN]⟩
          case measure => simp [intOf]; omega
        · obtain rfl : k = ks.length := by omega
          have HBr : Hid (Below w.heap.size w wr) := HBb.out.trans (hbd.mono HBb.out.size)
          have hrp := rpars_any s wr (HG.out.glob.below HBr.out) (HG.out.fine.below HBr.out) hsz
          clear hbd HOA HOB HEQ HOL
          go_wp2_with fail
          refine hrp.mono ?_
          rintro r Wc (⟨qs, vc, hvq, hlq, rfl, hownc, hbc⟩ | ⟨qs, bad, rest, hvq, hlq, hbad, rfl, hbc⟩)
          · clear hrp
            obtain ⟨adc, nc, cpc, hvc⟩ := own_lenL hownc
            subst hvc
            have HPC := hidP (PstsAt.of_ownR hownc)
            have HBc : Hid (Below w.heap.size w Wc) := HBr.out.trans (hbc.mono HBr.out.size)
            have HQ := hidP (And.intro hvq hlq)
            clear hownc hbc hvq hlq
            obtain ⟨Wd, hWd⟩ : ∃ W, W = Wc.alloc (.cells #[.int .i64 0, .int .i64 (-1)] 91) := ⟨_, rfl⟩
            have hbd : Below Wc.heap.size Wc Wd := by rw [hWd]; exact (Below.refl _ _).alloc (Nat.le_refl _) _
            have e0 : Wd.cell? ⟨Wc.heap.size, 0, none⟩ = some (.int .i64 0) := by rw [hWd]; simp
            have e1 : Wd.cell? ⟨Wc.heap.size, 1, none⟩ = some (.int .i64 (-1)) := by rw [hWd]; simp
            have HBd : Hid (Below w.heap.size w Wd) := HBc.out.trans (hbd.mono HBc.out.size)
            have hpp := lparse_any s Wd (by omega) (HG.out.led.below HBd.out)
            go_wp2_with fail
            rw [← hWd]
            clear hWd
            refine hpp.mono ?_
            rintro r We (⟨qs2, ve, hv2, hl2, rfl, howne, hbe⟩ | ⟨qs2, bad2, rest2, b2, hv2, hl2, hbad2, rfl, hbb2, k0, k1, hbe⟩)
            · obtain rfl : qs2 = qs := all_same hv2 HQ.out.1 (hl2.symm.trans HQ.out.2)
              obtain ⟨ade, ne, cpe, hve⟩ := own_lenL howne
              subst hve
              have HPE := hidP (PstsAt.of_own howne)
              have HBe : Hid (Below w.heap.size w We) := HBd.out.trans (hbe.mono HBd.out.size)
              have HPC2 := hidP ((HPC.out.below hbd).below hbe)
              have f0 := below_cellL hbe e0
              have f1 := below_cellL hbe e1
              have hql : qs2.length ≤ 1000000 := by
                have h1 := (lines_len s.data.toList).1
                rw [hl2, List.length_map] at h1
                have h2 := size_ba s
                omega
              clear hpp howne hv2 hl2 hbe hbd e0 e1
              go_wp2_with fail
              refine (is_nil We).mono ?_
              rintro r Wf ⟨rfl, hbf⟩
              have HBf : Hid (Below w.heap.size w Wf) := HBe.out.trans (hbf.mono HBe.out.size)
              have hsm := samePst_any qs2 _ _ Wf (HPE.out.below hbf) (HPC2.out.below hbf) hql
              clear hbf
              go_wp2_with fail
              refine hsm.mono ?_
              rintro r Wg ⟨rfl, mg, hwg⟩
              have hbg : Below Wf.heap.size Wf Wg := by rw [hwg]; exact ⟨rfl, rfl, rfl, Nat.le_refl _, fun _ _ => rfl⟩
              have HBg : Hid (Below w.heap.size w Wg) := HBf.out.trans (hbg.mono HBf.out.size)
              clear hwg hbg hsm
              go_wp2
              go_ret
              exact ⟨rfl, HBg.out⟩
            · exact absurd (HQ.out.2.symm.trans hl2) (all_good HQ.out.1 hbad2)
          · clear hrp
            have HBc : Hid (Below w.heap.size w Wc) := HBr.out.trans (hbc.mono HBr.out.size)
            have HQ := hidP (And.intro hvq hlq)
            have hqb : (qs.length : Int) ≤ 601 := by
              have h1 := (lines_len s.data.toList).1
              rw [hlq, List.length_append, List.length_map] at h1
              have h2 := size_ba s
              omega
            clear hbc hvq hlq
            obtain ⟨Wd, hWd⟩ : ∃ W, W = Wc.alloc (.cells #[.int .i64 3, .int .i64 (qs.length : Int)] 91) := ⟨_, rfl⟩
            have hbd : Below Wc.heap.size Wc Wd := by rw [hWd]; exact (Below.refl _ _).alloc (Nat.le_refl _) _
            have e0 : Wd.cell? ⟨Wc.heap.size, 0, none⟩ = some (.int .i64 3) := by rw [hWd]; simp
            have e1 : Wd.cell? ⟨Wc.heap.size, 1, none⟩ = some (.int .i64 (qs.length : Int)) := by rw [hWd]; simp
            have HBd : Hid (Below w.heap.size w Wd) := HBc.out.trans (hbd.mono HBc.out.size)
            have hpp := lparse_any s Wd (by omega) (HG.out.led.below HBd.out)
            go_wp2_with fail
            rw [← hWd]
            clear hWd
            refine hpp.mono ?_
            rintro r We (⟨qs2, ve, hv2, hl2, rfl, howne, hbe⟩ | ⟨qs2, bad2, rest2, b2, hv2, hl2, hbad2, rfl, hbb2, k0, k1, hbe⟩)
            · exact absurd (hl2.symm.trans HQ.out.2) (all_good hv2 hbad)
            · obtain rfl : qs2 = qs := first_bad hv2 HQ.out.1 hbad2 hbad (hl2.symm.trans HQ.out.2)
              have HBe : Hid (Below w.heap.size w We) := HBd.out.trans (hbe.mono HBd.out.size)
              have f0 := below_cellL hbe e0
              have f1 := below_cellL hbe e1
              clear hpp hv2 hl2 hbe hbd e0 e1
              have hia := is_at b2 3 (qs2.length : Int) We (HG.out.glob.below HBe.out).et k0 k1
              go_wp2_with fail
              refine hia.mono ?_
              rintro r Wf ⟨rfl, hbf⟩
              have HBf : Hid (Below w.heap.size w Wf) := HBe.out.trans (hbf.mono HBe.out.size)
              have hsm := samePst_any [] (.slice none 0 0) (.slice none 0 0) Wf (.inl ⟨rfl, rfl⟩) (.inl ⟨rfl, rfl⟩) (by simp)
              clear hbf hia
              go_wp2_with fail
              refine hsm.mono ?_
              rintro r Wg ⟨rfl, mg, hwg⟩
              have hbg : Below Wf.heap.size Wf Wg := by rw [hwg]; exact ⟨rfl, rfl, rfl, Nat.le_refl _, fun _ _ => rfl⟩
              have HBg : Hid (Below w.heap.size w Wg) := HBf.out.trans (hbg.mono HBf.out.size)
              clear hwg hbg hsm
              go_wp2
              go_ret
              exact ⟨rfl, HBg.out⟩
end Go.Proofs.YtcfgacdcgljbaaaGreatDoor
