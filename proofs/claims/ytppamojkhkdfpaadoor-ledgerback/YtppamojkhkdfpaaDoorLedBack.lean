/- The walk of tallymankeep.LedgerBack. -/
import Derived.Test.YtppamojkhkdfpaaDoorLedParse
import Derived.Test.YtppamojkhkdfpaaDoorLedBackM
import Derived.Test.YtppamojkhkdfpaaDoorLedEq
namespace Go.Proofs.YtppamojkhkdfpaaDoor
open Go.RowKit
set_option maxRecDepth 100000 in
set_option maxHeartbeats 8000000 in
theorem ledgerBack_walk (f : Fig) (s : ByteArray) (w : World) (hg : LedG w) (hf : f.ok) (_ : s.size ≤ maxLen) : Calls Tryd.prog 4 #[figV f, .string s] w fun r w' => r = .returned (.bool true) ∧ Below w.heap.size w w' := by
  have HG : Hid (LedG w) := hg
  have hF := fun W : World => bounded_any f W
  have hP := fun W : World => post_any f W
  have HV := hidE (fun h : f.bd => postL_vp f h)
  have HPL := hidE (postL_len f)
  have HPO := hidE (postL_ok f hf)
  have HB := hidE (bdB_iff (f := f))
  clear hg
  obtain ⟨fv, hfv⟩ : ∃ fv, fv = figV f := ⟨_, rfl⟩
  obtain ⟨bd, hbd⟩ : ∃ b, b = bdB f := ⟨_, rfl⟩
  obtain ⟨pl, hpl⟩ : ∃ l, l = postL f := ⟨_, rfl⟩
  rw [← hbd] at hF HB
  rw [← hpl] at hP HV HPL HPO
  unfold figV at hF hP ⊢
  clear hfv fv hbd hpl
  obtain ⟨f1, f2, f3, f4, f5⟩ := f
  simp only at hF hP ⊢
  obtain ⟨w1, hw1⟩ : ∃ W, W = w.alloc (.cells #[.int .i64 f1, .int .i64 f2, .int .i64 f3, .int .i64 f4, .int .i64 f5] 40) := ⟨_, rfl⟩
  have hb1 : Below w.heap.size w w1 := by rw [hw1]; exact (Below.refl _ _).alloc (Nat.le_refl _) _
  have hlt1 : w.heap.size < w1.heap.size := by rw [hw1]; simp
  have hc1 : ∀ j, j < 5 → w1.cell? ⟨w.heap.size, j, none⟩ = (#[Value.int .i64 f1, .int .i64 f2, .int .i64 f3, .int .i64 f4, .int .i64 f5] : Array Value)[j]? := fun j hj => by
    rw [hw1]
    obtain rfl | rfl | rfl | rfl | rfl : j = 0 ∨ j = 1 ∨ j = 2 ∨ j = 3 ∨ j = 4 := by omega
    all_goals simp
  have HW1 := hidE hw1
  have HB1 := hidE hb1
  have HC1 := hidE (And.intro hlt1 hc1)
  clear hw1 hb1 hlt1 hc1
  by_cases hs : s.size ≤ 600
  · have h1 := posted_any w1
    go_enter Tryd.func4, Tryd.ntmps4
    go_wp2_with fail
    rw [← HW1.out]
    refine h1.mono ?_
    rintro r w2 ⟨rfl, hb2⟩
    have HG2 := HG.out.below (HB1.out.trans (hb2.mono HB1.out.size))
    have hpa := lparse_any s w2 (by omega) HG2
    go_wp2_with fail
    refine hpa.mono ?_
    rintro r w3 (⟨ps, v, hv, hl, rfl, hown, hb3⟩ | ⟨ps, bad, rest, b, hv, hl, hbad, rfl, hbb, hc0, hc1, hb3⟩)
    · obtain ⟨ad3, n3, cp3, hv3⟩ := own_lenL hown
      subst hv3
      have hps : ps.length ≤ 600 := by
        have h1 := (lines_len s.data.toList).1
        rw [hl, List.length_map] at h1
        have h2 := size_ba s
        omega
      have hpr := lprint_any ps _ w3 (PstsAt.of_own hown) (by omega) (fun p hp => vp_ok (hv p hp))
      have hsx : (⟨(printL ps).toArray⟩ : ByteArray) = s := by rw [print_of_lines hl]
      rw [hsx] at hpr
      go_wp2_with fail
      refine hpr.mono ?_
      rintro r w4 ⟨rfl, hb4⟩
      have HX4 : Hid (Below w1.heap.size w1 w4) := (hb2.trans (hb3.mono hb2.size)).trans (hb4.mono (hb2.trans (hb3.mono hb2.size)).size)
      clear hpr hown hl hps hsx hb4 hb3 hpa hv h1 hb2
      have t0 : w4.cell? ⟨w.heap.size, 0, none⟩ = some (.int .i64 f1) := (HX4.out.cell (p := ⟨w.heap.size, 0, none⟩) HC1.out.1).trans (HC1.out.2 0 (by omega))
      have t1 : w4.cell? ⟨w.heap.size, 1, none⟩ = some (.int .i64 f2) := (HX4.out.cell (p := ⟨w.heap.size, 1, none⟩) HC1.out.1).trans (HC1.out.2 1 (by omega))
      have t2 : w4.cell? ⟨w.heap.size, 2, none⟩ = some (.int .i64 f3) := (HX4.out.cell (p := ⟨w.heap.size, 2, none⟩) HC1.out.1).trans (HC1.out.2 2 (by omega))
      have t3 : w4.cell? ⟨w.heap.size, 3, none⟩ = some (.int .i64 f4) := (HX4.out.cell (p := ⟨w.heap.size, 3, none⟩) HC1.out.1).trans (HC1.out.2 3 (by omega))
      have t4 : w4.cell? ⟨w.heap.size, 4, none⟩ = some (.int .i64 f5) := (HX4.out.cell (p := ⟨w.heap.size, 4, none⟩) HC1.out.1).trans (HC1.out.2 4 (by omega))
      have hbo := hF w4
      go_wp2_with fail
      refine hbo.mono ?_
      rintro r w5 ⟨rfl, hb5⟩
      have HX5 : Hid (Below w1.heap.size w1 w5) := HX4.out.trans (hb5.mono HX4.out.size)
      clear t0 t1 t2 t3 t4 hb5 hbo
      cases bd with
      | false =>
        go_wp2
        go_ret
        exact ⟨rfl, HB1.out.trans (HX5.out.mono HB1.out.size)⟩
      | true =>
        have Vs := HV.out (HB.out.1 rfl)
        have u0 : w5.cell? ⟨w.heap.size, 0, none⟩ = some (.int .i64 f1) := (HX5.out.cell (p := ⟨w.heap.size, 0, none⟩) HC1.out.1).trans (HC1.out.2 0 (by omega))
        have u1 : w5.cell? ⟨w.heap.size, 1, none⟩ = some (.int .i64 f2) := (HX5.out.cell (p := ⟨w.heap.size, 1, none⟩) HC1.out.1).trans (HC1.out.2 1 (by omega))
        have u2 : w5.cell? ⟨w.heap.size, 2, none⟩ = some (.int .i64 f3) := (HX5.out.cell (p := ⟨w.heap.size, 2, none⟩) HC1.out.1).trans (HC1.out.2 2 (by omega))
        have u3 : w5.cell? ⟨w.heap.size, 3, none⟩ = some (.int .i64 f4) := (HX5.out.cell (p := ⟨w.heap.size, 3, none⟩) HC1.out.1).trans (HC1.out.2 3 (by omega))
        have u4 : w5.cell? ⟨w.heap.size, 4, none⟩ = some (.int .i64 f5) := (HX5.out.cell (p := ⟨w.heap.size, 4, none⟩) HC1.out.1).trans (HC1.out.2 4 (by omega))
        have hpo := hP w5
        go_wp2_with fail
        refine hpo.mono ?_
        rintro r w6 ⟨v6, rfl, hown6, hb6⟩
        obtain ⟨ad6, n6, cp6, hv6⟩ := own_lenL hown6
        subst hv6
        have HX6 : Hid (Below w1.heap.size w1 w6) := HX5.out.trans (hb6.mono HX5.out.size)
        clear u0 u1 u2 u3 u4 hpo hb6
        have HA6 : Hid (PstsAt w6 (.slice ad6 n6 cp6) pl) := PstsAt.of_own hown6
        have hpr6 := lprint_any pl _ w6 HA6.out (by have := HPL.out; omega) HPO.out
        clear hown6
        have HL : Hid ((printL pl).length ≤ 50000) := by
          have h1 := printL_len pl HPO.out
          have h2 := HPL.out
          show _ ≤ _
          omega
        obtain ⟨tx, htx⟩ : ∃ t : ByteArray, t = ⟨(printL pl).toArray⟩ := ⟨_, rfl⟩
        rw [← htx] at hpr6
        have htd : tx.data.toList = printL pl := by rw [htx]
        have hts : tx.size ≤ 50000 := by rw [size_ba, htd]; exact HL.out
        have HTD := hidE htd
        clear htx htd
        go_wp2_with fail
        refine hpr6.mono ?_
        rintro r w7 ⟨rfl, hb7⟩
        have HX7 : Hid (Below w1.heap.size w1 w7) := HX6.out.trans (hb7.mono HX6.out.size)
        have HA7 : Hid (PstsAt w7 (.slice ad6 n6 cp6) pl) := HA6.out.below hb7
        clear hpr6 hb7
        have hpa7 := lparse_any tx w7 (by omega) (HG.out.below (HB1.out.trans (HX7.out.mono HB1.out.size)))
        go_wp2_with fail
        refine hpa7.mono ?_
        rintro r w8 (⟨qs, v8, hv8, hl8, rfl, hown8, hb8⟩ | ⟨qs, bad8, rest8, b8, hv8, hl8, hbad8, rfl, _, _, _, hb8⟩)
        · rw [HTD.out, lines_print pl Vs] at hl8
          have hq : qs = pl := map_pline_inj hv8 Vs hl8.symm
          subst hq
          obtain ⟨ad8, n8, cp8, hv8'⟩ := own_lenL hown8
          subst hv8'
          have HX8 : Hid (Below w1.heap.size w1 w8) := HX7.out.trans (hb8.mono HX7.out.size)
          have heq := eqPst_any qs _ _ w8 (PstsAt.of_own hown8) (HA7.out.below hb8) (by have := HPL.out; omega)
          clear hown8 hb8 hpa7 hl8
          go_wp2_with fail
          refine heq.mono ?_
          rintro r w9 ⟨rfl, m9, rfl⟩
          go_wp2
          go_ret
          exact ⟨rfl, (HB1.out.trans (HX8.out.mono HB1.out.size)).trans ⟨rfl, rfl, rfl, Nat.le_refl _, fun _ _ => rfl⟩⟩
        · exfalso
          rw [HTD.out, lines_print pl Vs] at hl8
          have hm : bad8 ∈ pl.map pline := by rw [hl8]; simp
          obtain ⟨p, hp, he⟩ := List.mem_map.1 hm
          exact hbad8 ⟨p, Vs p hp, he⟩
    · have HX3 : Hid (Below w1.heap.size w1 w3) := hb2.trans (hb3.mono hb2.size)
      clear hc0 hc1 hbb hl hb3 hpa hv hbad h1 hb2
      obtain ⟨w4, hw4⟩ : ∃ W, W = w3 := ⟨_, rfl⟩
      rw [← hw4] at HX3 ⊢
      have HX4 := HX3
      clear HX3 hw4
      have t0 : w4.cell? ⟨w.heap.size, 0, none⟩ = some (.int .i64 f1) := (HX4.out.cell (p := ⟨w.heap.size, 0, none⟩) HC1.out.1).trans (HC1.out.2 0 (by omega))
      have t1 : w4.cell? ⟨w.heap.size, 1, none⟩ = some (.int .i64 f2) := (HX4.out.cell (p := ⟨w.heap.size, 1, none⟩) HC1.out.1).trans (HC1.out.2 1 (by omega))
      have t2 : w4.cell? ⟨w.heap.size, 2, none⟩ = some (.int .i64 f3) := (HX4.out.cell (p := ⟨w.heap.size, 2, none⟩) HC1.out.1).trans (HC1.out.2 2 (by omega))
      have t3 : w4.cell? ⟨w.heap.size, 3, none⟩ = some (.int .i64 f4) := (HX4.out.cell (p := ⟨w.heap.size, 3, none⟩) HC1.out.1).trans (HC1.out.2 3 (by omega))
      have t4 : w4.cell? ⟨w.heap.size, 4, none⟩ = some (.int .i64 f5) := (HX4.out.cell (p := ⟨w.heap.size, 4, none⟩) HC1.out.1).trans (HC1.out.2 4 (by omega))
      have hbo := hF w4
      go_wp2_with fail
      refine hbo.mono ?_
      rintro r w5 ⟨rfl, hb5⟩
      have HX5 : Hid (Below w1.heap.size w1 w5) := HX4.out.trans (hb5.mono HX4.out.size)
      clear t0 t1 t2 t3 t4 hb5 hbo
      cases bd with
      | false =>
        go_wp2
        go_ret
        exact ⟨rfl, HB1.out.trans (HX5.out.mono HB1.out.size)⟩
      | true =>
        have Vs := HV.out (HB.out.1 rfl)
        have u0 : w5.cell? ⟨w.heap.size, 0, none⟩ = some (.int .i64 f1) := (HX5.out.cell (p := ⟨w.heap.size, 0, none⟩) HC1.out.1).trans (HC1.out.2 0 (by omega))
        have u1 : w5.cell? ⟨w.heap.size, 1, none⟩ = some (.int .i64 f2) := (HX5.out.cell (p := ⟨w.heap.size, 1, none⟩) HC1.out.1).trans (HC1.out.2 1 (by omega))
        have u2 : w5.cell? ⟨w.heap.size, 2, none⟩ = some (.int .i64 f3) := (HX5.out.cell (p := ⟨w.heap.size, 2, none⟩) HC1.out.1).trans (HC1.out.2 2 (by omega))
        have u3 : w5.cell? ⟨w.heap.size, 3, none⟩ = some (.int .i64 f4) := (HX5.out.cell (p := ⟨w.heap.size, 3, none⟩) HC1.out.1).trans (HC1.out.2 3 (by omega))
        have u4 : w5.cell? ⟨w.heap.size, 4, none⟩ = some (.int .i64 f5) := (HX5.out.cell (p := ⟨w.heap.size, 4, none⟩) HC1.out.1).trans (HC1.out.2 4 (by omega))
        have hpo := hP w5
        go_wp2_with fail
        refine hpo.mono ?_
        rintro r w6 ⟨v6, rfl, hown6, hb6⟩
        obtain ⟨ad6, n6, cp6, hv6⟩ := own_lenL hown6
        subst hv6
        have HX6 : Hid (Below w1.heap.size w1 w6) := HX5.out.trans (hb6.mono HX5.out.size)
        clear u0 u1 u2 u3 u4 hpo hb6
        have HA6 : Hid (PstsAt w6 (.slice ad6 n6 cp6) pl) := PstsAt.of_own hown6
        have hpr6 := lprint_any pl _ w6 HA6.out (by have := HPL.out; omega) HPO.out
        clear hown6
        have HL : Hid ((printL pl).length ≤ 50000) := by
          have h1 := printL_len pl HPO.out
          have h2 := HPL.out
          show _ ≤ _
          omega
        obtain ⟨tx, htx⟩ : ∃ t : ByteArray, t = ⟨(printL pl).toArray⟩ := ⟨_, rfl⟩
        rw [← htx] at hpr6
        have htd : tx.data.toList = printL pl := by rw [htx]
        have hts : tx.size ≤ 50000 := by rw [size_ba, htd]; exact HL.out
        have HTD := hidE htd
        clear htx htd
        go_wp2_with fail
        refine hpr6.mono ?_
        rintro r w7 ⟨rfl, hb7⟩
        have HX7 : Hid (Below w1.heap.size w1 w7) := HX6.out.trans (hb7.mono HX6.out.size)
        have HA7 : Hid (PstsAt w7 (.slice ad6 n6 cp6) pl) := HA6.out.below hb7
        clear hpr6 hb7
        have hpa7 := lparse_any tx w7 (by omega) (HG.out.below (HB1.out.trans (HX7.out.mono HB1.out.size)))
        go_wp2_with fail
        refine hpa7.mono ?_
        rintro r w8 (⟨qs, v8, hv8, hl8, rfl, hown8, hb8⟩ | ⟨qs, bad8, rest8, b8, hv8, hl8, hbad8, rfl, _, _, _, hb8⟩)
        · rw [HTD.out, lines_print pl Vs] at hl8
          have hq : qs = pl := map_pline_inj hv8 Vs hl8.symm
          subst hq
          obtain ⟨ad8, n8, cp8, hv8'⟩ := own_lenL hown8
          subst hv8'
          have HX8 : Hid (Below w1.heap.size w1 w8) := HX7.out.trans (hb8.mono HX7.out.size)
          have heq := eqPst_any qs _ _ w8 (PstsAt.of_own hown8) (HA7.out.below hb8) (by have := HPL.out; omega)
          clear hown8 hb8 hpa7 hl8
          go_wp2_with fail
          refine heq.mono ?_
          rintro r w9 ⟨rfl, m9, rfl⟩
          go_wp2
          go_ret
          exact ⟨rfl, (HB1.out.trans (HX8.out.mono HB1.out.size)).trans ⟨rfl, rfl, rfl, Nat.le_refl _, fun _ _ => rfl⟩⟩
        · exfalso
          rw [HTD.out, lines_print pl Vs] at hl8
          have hm : bad8 ∈ pl.map pline := by rw [hl8]; simp
          obtain ⟨p, hp, he⟩ := List.mem_map.1 hm
          exact hbad8 ⟨p, Vs p hp, he⟩
  · go_enter Tryd.func4, Tryd.ntmps4
    go_wp2
    go_ret
    rw [← HW1.out]
    exact ⟨rfl, HB1.out⟩
end Go.Proofs.YtppamojkhkdfpaaDoor
