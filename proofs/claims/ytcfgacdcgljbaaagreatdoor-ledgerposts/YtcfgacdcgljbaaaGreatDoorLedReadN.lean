/- The walk of ledger.read at a line that is no posting's. -/
import Derived.Test.YtcfgacdcgljbaaaGreatDoorLedRead
namespace Go.Proofs.YtcfgacdcgljbaaaGreatDoor
open Go.RowKit
theorem parts_of4 {t x0 x1 x2 x3 : ByteArray} (h : partsR t = [x0, x1, x2, x3]) : t.data.toList = x0.data.toList ++ 32 :: (x1.data.toList ++ 32 :: (x2.data.toList ++ 32 :: x3.data.toList)) := by
  have h1 := partsR_data t
  rw [h] at h1
  have h2 := join_split (min 4 (t.size + 1) - 1) t.data.toList
  rw [← h1] at h2
  rw [← h2]
  rfl
set_option maxRecDepth 20000 in
set_option maxHeartbeats 8000000 in
theorem read_no (line : ByteArray) (w : World) (hno : ¬ ∃ p, Vp p ∧ pline p = line.data.toList) (hs : line.size ≤ 100000) (hg : LedG w) :
    Calls Tryz.prog 80 #[.string line] w fun r w' => r = .returned (.tuple #[.agg #[.string ⟨#[]⟩, .string ⟨#[]⟩, .int .i64 0], .bool false]) ∧ Below w.heap.size w w' := by
  obtain ⟨tx, htx⟩ : ∃ t : ByteArray, t = ⟨(Lib.trimSuffix line.data.toList [10]).toArray⟩ := ⟨_, rfl⟩
  obtain ⟨en, hen⟩ : ∃ b : Bool, b = Lib.hasSuffix line.data.toList [10] := ⟨_, rfl⟩
  have htd : tx.data.toList = Lib.trimSuffix line.data.toList [10] := by rw [htx]
  have htl : tx.size ≤ line.size := by
    have h1 := congrArg List.length htd
    unfold Lib.trimSuffix at h1
    split at h1
    · rw [List.length_take] at h1; simp at h1; omega
    · simp at h1; omega
  have hcut : ∀ W, Calls Tryz.prog 130 #[.string line, .string ⟨#[10]⟩] W fun e w' => e = .returned (.tuple #[.string tx, .bool en]) ∧ w' = W := fun W => by
    have h1 := Tryz.strings_CutSuffix line ⟨#[10]⟩ W (by omega)
    simp only at h1
    rw [← hen, ← htx] at h1
    exact h1
  have hspl := split_call tx
  have HL4 := hidE (partsR_len tx)
  have hsz := partsR_size tx
  obtain ⟨w0, hw0⟩ : ∃ W, W = w.alloc (.cells #[.string ⟨#[]⟩, .string ⟨#[]⟩, .int .i64 0] 75) := ⟨_, rfl⟩
  have hb0 : Below w.heap.size w w0 := by rw [hw0]; exact (Below.refl _ _).alloc (Nat.le_refl _) _
  have hs0 : w0.heap.size = w.heap.size + 1 := by rw [hw0]; simp
  have hc0 : ∀ j, w0.frozen? ⟨w.heap.size, j, none⟩ = false := fun j => by rw [hw0]; simp
  have hc1 : w0.cell? ⟨w.heap.size, 0, none⟩ = some (.string ⟨#[]⟩) ∧ w0.cell? ⟨w.heap.size, 1, none⟩ = some (.string ⟨#[]⟩) ∧ w0.cell? ⟨w.heap.size, 2, none⟩ = some (.int .i64 0) := by rw [hw0]; simp
  have HS0 := hidE hs0
  have HB0 := hidE hb0
  have HC0 := hidE hc0
  have HC1 := hidE hc1
  have HG := hidE hg
  have HS := hidE (show tx.size ≤ 100000 by omega)
  have HW0 := hidE hw0
  have HSP := hidE hspl
  have HNO := hidE hno
  have HEN := hidE hen
  have HTD := hidE htd
  have HSZ := hidE hsz
  have HTL := hidE htl
  clear hs0 hw0 hb0 hc0 hc1 hg hspl hno hen htx htd hsz htl hs
  go_enter Tryz.func80, Tryz.ntmps80
  go_wp2_with fail
  rw [← HW0.out]
  refine (hcut _).mono ?_
  rintro e w1 ⟨rfl, rfl⟩
  go_wp2_with fail
  refine (HSP.out _ (HG.out.below HB0.out) HS.out).mono ?_
  rintro e w2 ⟨rfl, hcs, hb2⟩
  have HBw2 := hidE hb2
  have hs2 := hb2.size
  have HCS := hidE hcs
  clear hcs hcut hb2
  obtain ⟨np, hnp⟩ : ∃ n, n = (partsR tx).length := ⟨_, rfl⟩
  have hn4 : np ≤ 4 := by rw [hnp]; have := HL4.out; omega
  rw [← hnp]
  have HNP := hidE hnp
  clear hnp
  cases en with
  | false =>
    have hlt : w.heap.size < w1.heap.size := by have := HS0.out; omega
    have z0 := (HBw2.out.cell (p := ⟨w.heap.size, 0, none⟩) hlt).trans HC1.out.1
    have z1 := (HBw2.out.cell (p := ⟨w.heap.size, 1, none⟩) hlt).trans HC1.out.2.1
    have z2 := (HBw2.out.cell (p := ⟨w.heap.size, 2, none⟩) hlt).trans HC1.out.2.2
    have g0 := (HBw2.out.frozen (p := ⟨w.heap.size, 0, none⟩) hlt).trans (HC0.out 0)
    have g1 := (HBw2.out.frozen (p := ⟨w.heap.size, 1, none⟩) hlt).trans (HC0.out 1)
    have g2 := (HBw2.out.frozen (p := ⟨w.heap.size, 2, none⟩) hlt).trans (HC0.out 2)
    have HBF : Hid (Below w.heap.size w w2) := HB0.out.trans (HBw2.out.mono HB0.out.size)
    have HTS := hidE (three_set (v0 := .string ⟨#[]⟩) (v1 := .string ⟨#[]⟩) (v2 := .int .i64 0) z0 z1 z2)
    clear hlt
    go_wp2
    obtain ⟨r0, r1, r2⟩ := HTS.out
    refine bodyPost_ret (v := .tuple #[.agg #[.string ⟨#[]⟩, .string ⟨#[]⟩, .int .i64 0], .bool false]) (by simp [results, Tryz.results80, go_sem, r0, r1, r2]) rfl ⟨rfl, ?_⟩
    exact ((HBF.out.setCell (p := ⟨w.heap.size, 0, none⟩) (Nat.le_refl _) _).setCell (p := ⟨w.heap.size, 1, none⟩) (Nat.le_refl _) _).setCell (p := ⟨w.heap.size, 2, none⟩) (Nat.le_refl _) _
  | true =>
    by_cases h4 : np = 4
    · subst h4
      obtain ⟨x0, x1, x2, x3, hp4⟩ : ∃ x0 x1 x2 x3, partsR tx = [x0, x1, x2, x3] := by
        have h1 := HNP.out
        match hq : partsR tx, h1 with
        | [x0, x1, x2, x3], _ => exact ⟨x0, x1, x2, x3, rfl⟩
      have hcs := HCS.out
      have hsz := HSZ.out
      rw [hp4] at hsz
      simp only [hp4] at hcs
      have q0 := hcs 0 (by simp)
      have q1 := hcs 1 (by simp)
      have q2 := hcs 2 (by simp)
      have q3 := hcs 3 (by simp)
      simp only [List.getElem_cons_zero, List.getElem_cons_succ] at q0 q1 q2 q3
      have HT4 := hidE (parts_of4 hp4)
      have hx0 : x0.size ≤ 100000 := by have := hsz x0 (by simp); have := HS.out; omega
      have hx1 : x1.size ≤ 100000 := by have := hsz x1 (by simp); have := HS.out; omega
      have hx3 : x3.size ≤ 100000 := by have := hsz x3 (by simp); have := HS.out; omega
      clear hcs hsz hp4 HCS HSZ HNP HL4
      by_cases hfr : x2 = ⟨#[102, 114, 111, 109]⟩
  
      · subst hfr
        cases hpv : parsed x0.data.toList with
        | none =>
          have hpa := parse_bad x0 w2 (by unfold maxLen; omega) hpv
          go_wp2_with fail
          refine hpa.mono ?_
          rintro e w3 ⟨rfl, hb3⟩
          have hB3 : Below w.heap.size w w3 := HB0.out.trans ((HBw2.out.trans (hb3.mono hs2)).mono HB0.out.size)
          have p1 := (hb3.cell (World.block_lt_of_cell? _ _ q1)).trans q1
          have p3 := (hb3.cell (World.block_lt_of_cell? _ _ q3)).trans q3
          have hb03 : Below w1.heap.size w1 w3 := HBw2.out.trans (hb3.mono hs2)
          have HB3 := hidE hB3
          have HB03 := hidE hb03
          clear q0 q1 q2 q3 hb3 hB3 hb03 hpa
          go_wp2_with fail
          refine wp_region_mix [(true, 0), (true, 1), (true, 2), (true, 4), (true, 5), (true, 6), (false, 3), (false, 7), (true, 8), (true, 9)] (by kernel_rfl) (by kernel_rfl) ?_
          obtain ⟨W3, hW3⟩ : ∃ W, W = w3.drew := ⟨_, rfl⟩
          rw [← hW3]
          have hbd : Below w3.heap.size w3 W3 := by rw [hW3]; exact below_drew _
          clear hW3
          have f1 := fun n : Up W3 => n.cell ((hbd.cell (World.block_lt_of_cell? _ _ p1)).trans p1)
          have f3 := fun n : Up W3 => n.cell ((hbd.cell (World.block_lt_of_cell? _ _ p3)).trans p3)
          have hU := up_ne
          have hA := anyW_ne
          have HBD := hidE hbd
          clear hbd p1 p3
          repeat (refine mix_q rfl ?_; go_big_quiet_step (fail); refine wpQuiet_nil ?_)
          clear f1 f3
          have hgW : AccG W3 := ((HG.out.below HB3.out).below HBD.out).acc
          refine mix_n rfl ?_
          go_wp2_with fail
          refine (account_any x1 _ hgW).mono ?_
          rintro e w4 ⟨rfl, rfl⟩
          go_wp2_with fail
          refine ⟨rfl, Below.refl _ _, ?_⟩
          refine mix_n rfl ?_
          go_wp2_with fail
          refine (account_any x3 _ hgW).mono ?_
          rintro e w5 ⟨rfl, rfl⟩
          go_wp2_with fail
          refine ⟨rfl, Below.refl _ _, ?_⟩
          repeat (refine mix_q rfl ?_; go_big_quiet_step (fail); refine wpQuiet_nil ?_)
          refine mix_nil ?_
          have HBw5 : Hid (Below w1.heap.size w1 w5) := HB03.out.trans (HBD.out.mono HB03.out.size)
          clear hgW
          have hlt : w.heap.size < w1.heap.size := by have := HS0.out; omega
          have z0 := (HBw5.out.cell (p := ⟨w.heap.size, 0, none⟩) hlt).trans HC1.out.1
          have z1 := (HBw5.out.cell (p := ⟨w.heap.size, 1, none⟩) hlt).trans HC1.out.2.1
          have z2 := (HBw5.out.cell (p := ⟨w.heap.size, 2, none⟩) hlt).trans HC1.out.2.2
          have g0 := (HBw5.out.frozen (p := ⟨w.heap.size, 0, none⟩) hlt).trans (HC0.out 0)
          have g1 := (HBw5.out.frozen (p := ⟨w.heap.size, 1, none⟩) hlt).trans (HC0.out 1)
          have g2 := (HBw5.out.frozen (p := ⟨w.heap.size, 2, none⟩) hlt).trans (HC0.out 2)
          have HBF : Hid (Below w.heap.size w w5) := HB0.out.trans (HBw5.out.mono HB0.out.size)
          have HTS := hidE (three_set (v0 := .string ⟨#[]⟩) (v1 := .string ⟨#[]⟩) (v2 := .int .i64 0) z0 z1 z2)
          clear hlt
          go_wp2
          obtain ⟨r0, r1, r2⟩ := HTS.out
          refine bodyPost_ret (v := .tuple #[.agg #[.string ⟨#[]⟩, .string ⟨#[]⟩, .int .i64 0], .bool false]) (by simp [results, Tryz.results80, go_sem, r0, r1, r2]) rfl ⟨rfl, ?_⟩
          exact ((HBF.out.setCell (p := ⟨w.heap.size, 0, none⟩) (Nat.le_refl _) _).setCell (p := ⟨w.heap.size, 1, none⟩) (Nat.le_refl _) _).setCell (p := ⟨w.heap.size, 2, none⟩) (Nat.le_refl _) _
        | some n =>
          have hpa := parse_ok x0 n w2 hpv
          have HPV := hidE hpv
          clear hpv
          go_wp2_with fail
          refine hpa.mono ?_
          rintro e w3 ⟨rfl, hb3⟩
          have hB3 : Below w.heap.size w w3 := HB0.out.trans ((HBw2.out.trans (hb3.mono hs2)).mono HB0.out.size)
          have p1 := (hb3.cell (World.block_lt_of_cell? _ _ q1)).trans q1
          have p3 := (hb3.cell (World.block_lt_of_cell? _ _ q3)).trans q3
          have hb03 : Below w1.heap.size w1 w3 := HBw2.out.trans (hb3.mono hs2)
          have HB3 := hidE hB3
          have HB03 := hidE hb03
          clear q0 q1 q2 q3 hb3 hB3 hb03 hpa
          go_wp2_with fail
          refine wp_region_mix [(true, 0), (true, 1), (true, 2), (true, 4), (true, 5), (true, 6), (false, 3), (false, 7), (true, 8), (true, 9)] (by kernel_rfl) (by kernel_rfl) ?_
          obtain ⟨W3, hW3⟩ : ∃ W, W = w3.drew := ⟨_, rfl⟩
          rw [← hW3]
          have hbd : Below w3.heap.size w3 W3 := by rw [hW3]; exact below_drew _
          clear hW3
          have f1 := fun n : Up W3 => n.cell ((hbd.cell (World.block_lt_of_cell? _ _ p1)).trans p1)
          have f3 := fun n : Up W3 => n.cell ((hbd.cell (World.block_lt_of_cell? _ _ p3)).trans p3)
          have hU := up_ne
          have hA := anyW_ne
          have HBD := hidE hbd
          clear hbd p1 p3
          repeat (refine mix_q rfl ?_; go_big_quiet_step (fail); refine wpQuiet_nil ?_)
          clear f1 f3
          have hgW : AccG W3 := ((HG.out.below HB3.out).below HBD.out).acc
          refine mix_n rfl ?_
          go_wp2_with fail
          refine (account_any x1 _ hgW).mono ?_
          rintro e w4 ⟨rfl, rfl⟩
          go_wp2_with fail
          refine ⟨rfl, Below.refl _ _, ?_⟩
          refine mix_n rfl ?_
          go_wp2_with fail
          refine (account_any x3 _ hgW).mono ?_
          rintro e w5 ⟨rfl, rfl⟩
          go_wp2_with fail
          refine ⟨rfl, Below.refl _ _, ?_⟩
          repeat (refine mix_q rfl ?_; go_big_quiet_step (fail); refine wpQuiet_nil ?_)
          refine mix_nil ?_
          have HBw5 : Hid (Below w1.heap.size w1 w5) := HB03.out.trans (HBD.out.mono HB03.out.size)
          clear hgW
          by_cases hn1 : n < 1
          · have hn1' : n < 1 := hn1
            have hlt : w.heap.size < w1.heap.size := by have := HS0.out; omega
            have z0 := (HBw5.out.cell (p := ⟨w.heap.size, 0, none⟩) hlt).trans HC1.out.1
            have z1 := (HBw5.out.cell (p := ⟨w.heap.size, 1, none⟩) hlt).trans HC1.out.2.1
            have z2 := (HBw5.out.cell (p := ⟨w.heap.size, 2, none⟩) hlt).trans HC1.out.2.2
            have g0 := (HBw5.out.frozen (p := ⟨w.heap.size, 0, none⟩) hlt).trans (HC0.out 0)
            have g1 := (HBw5.out.frozen (p := ⟨w.heap.size, 1, none⟩) hlt).trans (HC0.out 1)
            have g2 := (HBw5.out.frozen (p := ⟨w.heap.size, 2, none⟩) hlt).trans (HC0.out 2)
            have HBF : Hid (Below w.heap.size w w5) := HB0.out.trans (HBw5.out.mono HB0.out.size)
            have HTS := hidE (three_set (v0 := .string ⟨#[]⟩) (v1 := .string ⟨#[]⟩) (v2 := .int .i64 0) z0 z1 z2)
            clear hlt
            go_wp2
            obtain ⟨r0, r1, r2⟩ := HTS.out
            refine bodyPost_ret (v := .tuple #[.agg #[.string ⟨#[]⟩, .string ⟨#[]⟩, .int .i64 0], .bool false]) (by simp [results, Tryz.results80, go_sem, r0, r1, r2]) rfl ⟨rfl, ?_⟩
            exact ((HBF.out.setCell (p := ⟨w.heap.size, 0, none⟩) (Nat.le_refl _) _).setCell (p := ⟨w.heap.size, 1, none⟩) (Nat.le_refl _) _).setCell (p := ⟨w.heap.size, 2, none⟩) (Nat.le_refl _) _
          · by_cases m1 : x1 ∈ accL
            · rw [accOf_mem m1]
              have n1b : ¬ x1.toList = [] := fun e => (accL_sz m1).2.1 (size_nil e)
              have n1 : x1.toList.isEmpty = false := by simpa using n1b
              by_cases m3 : x3 ∈ accL
              · rw [accOf_mem m3]
                have n3b : ¬ x3.toList = [] := fun e => (accL_sz m3).2.1 (size_nil e)
                have n3 : x3.toList.isEmpty = false := by simpa using n3b
                by_cases hee : x1 = x3
                · have hq : (x1.toList == x3.toList) = true := by rw [str_eq]; simpa using hee
                  clear hee
                  have hlt : w.heap.size < w1.heap.size := by have := HS0.out; omega
                  have z0 := (HBw5.out.cell (p := ⟨w.heap.size, 0, none⟩) hlt).trans HC1.out.1
                  have z1 := (HBw5.out.cell (p := ⟨w.heap.size, 1, none⟩) hlt).trans HC1.out.2.1
                  have z2 := (HBw5.out.cell (p := ⟨w.heap.size, 2, none⟩) hlt).trans HC1.out.2.2
                  have g0 := (HBw5.out.frozen (p := ⟨w.heap.size, 0, none⟩) hlt).trans (HC0.out 0)
                  have g1 := (HBw5.out.frozen (p := ⟨w.heap.size, 1, none⟩) hlt).trans (HC0.out 1)
                  have g2 := (HBw5.out.frozen (p := ⟨w.heap.size, 2, none⟩) hlt).trans (HC0.out 2)
                  have HBF : Hid (Below w.heap.size w w5) := HB0.out.trans (HBw5.out.mono HB0.out.size)
                  have HTS := hidE (three_set (v0 := .string ⟨#[]⟩) (v1 := .string ⟨#[]⟩) (v2 := .int .i64 0) z0 z1 z2)
                  clear hlt
                  go_wp2
                  obtain ⟨r0, r1, r2⟩ := HTS.out
                  refine bodyPost_ret (v := .tuple #[.agg #[.string ⟨#[]⟩, .string ⟨#[]⟩, .int .i64 0], .bool false]) (by simp [results, Tryz.results80, go_sem, r0, r1, r2]) rfl ⟨rfl, ?_⟩
                  exact ((HBF.out.setCell (p := ⟨w.heap.size, 0, none⟩) (Nat.le_refl _) _).setCell (p := ⟨w.heap.size, 1, none⟩) (Nat.le_refl _) _).setCell (p := ⟨w.heap.size, 2, none⟩) (Nat.le_refl _) _
                · refine absurd ⟨⟨x1, x3, n⟩, ⟨by show 1 ≤ n; omega, (parsed_some HPV.out).2.2.1, m1, m3, hee⟩, ?_⟩ HNO.out
                  rw [pline_t, trim_back HEN.out.symm, ← HTD.out, HT4.out]
                  unfold tline
                  rw [(parsed_some HPV.out).2.2.2.1]
              · rw [accOf_not m3]
                have hlt : w.heap.size < w1.heap.size := by have := HS0.out; omega
                have z0 := (HBw5.out.cell (p := ⟨w.heap.size, 0, none⟩) hlt).trans HC1.out.1
                have z1 := (HBw5.out.cell (p := ⟨w.heap.size, 1, none⟩) hlt).trans HC1.out.2.1
                have z2 := (HBw5.out.cell (p := ⟨w.heap.size, 2, none⟩) hlt).trans HC1.out.2.2
                have g0 := (HBw5.out.frozen (p := ⟨w.heap.size, 0, none⟩) hlt).trans (HC0.out 0)
                have g1 := (HBw5.out.frozen (p := ⟨w.heap.size, 1, none⟩) hlt).trans (HC0.out 1)
                have g2 := (HBw5.out.frozen (p := ⟨w.heap.size, 2, none⟩) hlt).trans (HC0.out 2)
                have HBF : Hid (Below w.heap.size w w5) := HB0.out.trans (HBw5.out.mono HB0.out.size)
                have HTS := hidE (three_set (v0 := .string ⟨#[]⟩) (v1 := .string ⟨#[]⟩) (v2 := .int .i64 0) z0 z1 z2)
                clear hlt
                go_wp2
                obtain ⟨r0, r1, r2⟩ := HTS.out
                refine bodyPost_ret (v := .tuple #[.agg #[.string ⟨#[]⟩, .string ⟨#[]⟩, .int .i64 0], .bool false]) (by simp [results, Tryz.results80, go_sem, r0, r1, r2]) rfl ⟨rfl, ?_⟩
                exact ((HBF.out.setCell (p := ⟨w.heap.size, 0, none⟩) (Nat.le_refl _) _).setCell (p := ⟨w.heap.size, 1, none⟩) (Nat.le_refl _) _).setCell (p := ⟨w.heap.size, 2, none⟩) (Nat.le_refl _) _
            · rw [accOf_not m1]
              have hlt : w.heap.size < w1.heap.size := by have := HS0.out; omega
              have z0 := (HBw5.out.cell (p := ⟨w.heap.size, 0, none⟩) hlt).trans HC1.out.1
              have z1 := (HBw5.out.cell (p := ⟨w.heap.size, 1, none⟩) hlt).trans HC1.out.2.1
              have z2 := (HBw5.out.cell (p := ⟨w.heap.size, 2, none⟩) hlt).trans HC1.out.2.2
              have g0 := (HBw5.out.frozen (p := ⟨w.heap.size, 0, none⟩) hlt).trans (HC0.out 0)
              have g1 := (HBw5.out.frozen (p := ⟨w.heap.size, 1, none⟩) hlt).trans (HC0.out 1)
              have g2 := (HBw5.out.frozen (p := ⟨w.heap.size, 2, none⟩) hlt).trans (HC0.out 2)
              have HBF : Hid (Below w.heap.size w w5) := HB0.out.trans (HBw5.out.mono HB0.out.size)
              have HTS := hidE (three_set (v0 := .string ⟨#[]⟩) (v1 := .string ⟨#[]⟩) (v2 := .int .i64 0) z0 z1 z2)
              clear hlt
              go_wp2
              obtain ⟨r0, r1, r2⟩ := HTS.out
              refine bodyPost_ret (v := .tuple #[.agg #[.string ⟨#[]⟩, .string ⟨#[]⟩, .int .i64 0], .bool false]) (by simp [results, Tryz.results80, go_sem, r0, r1, r2]) rfl ⟨rfl, ?_⟩
              exact ((HBF.out.setCell (p := ⟨w.heap.size, 0, none⟩) (Nat.le_refl _) _).setCell (p := ⟨w.heap.size, 1, none⟩) (Nat.le_refl _) _).setCell (p := ⟨w.heap.size, 2, none⟩) (Nat.le_refl _) _
      · have hfq2 : ¬ x2.toList = [102, 114, 111, 109] := fun e => hfr (ByteArray.ext (Array.toList_inj.1 (by rw [← ByteArray.toList_eq, e])))
        have hfq : (x2.toList == [102, 114, 111, 109]) = false := by simpa using hfq2
        have hlt : w.heap.size < w1.heap.size := by have := HS0.out; omega
        have z0 := (HBw2.out.cell (p := ⟨w.heap.size, 0, none⟩) hlt).trans HC1.out.1
        have z1 := (HBw2.out.cell (p := ⟨w.heap.size, 1, none⟩) hlt).trans HC1.out.2.1
        have z2 := (HBw2.out.cell (p := ⟨w.heap.size, 2, none⟩) hlt).trans HC1.out.2.2
        have g0 := (HBw2.out.frozen (p := ⟨w.heap.size, 0, none⟩) hlt).trans (HC0.out 0)
        have g1 := (HBw2.out.frozen (p := ⟨w.heap.size, 1, none⟩) hlt).trans (HC0.out 1)
        have g2 := (HBw2.out.frozen (p := ⟨w.heap.size, 2, none⟩) hlt).trans (HC0.out 2)
        have HBF : Hid (Below w.heap.size w w2) := HB0.out.trans (HBw2.out.mono HB0.out.size)
        have HTS := hidE (three_set (v0 := .string ⟨#[]⟩) (v1 := .string ⟨#[]⟩) (v2 := .int .i64 0) z0 z1 z2)
        clear hlt
        go_wp2
        obtain ⟨r0, r1, r2⟩ := HTS.out
        refine bodyPost_ret (v := .tuple #[.agg #[.string ⟨#[]⟩, .string ⟨#[]⟩, .int .i64 0], .bool false]) (by simp [results, Tryz.results80, go_sem, r0, r1, r2]) rfl ⟨rfl, ?_⟩
        exact ((HBF.out.setCell (p := ⟨w.heap.size, 0, none⟩) (Nat.le_refl _) _).setCell (p := ⟨w.heap.size, 1, none⟩) (Nat.le_refl _) _).setCell (p := ⟨w.heap.size, 2, none⟩) (Nat.le_refl _) _
    · have h4i : ¬ (np : Int) = 4 := by omega
      have h4b : ((np : Int) == 4) = false := by simpa using h4i
      have hlt : w.heap.size < w1.heap.size := by have := HS0.out; omega
      have z0 := (HBw2.out.cell (p := ⟨w.heap.size, 0, none⟩) hlt).trans HC1.out.1
      have z1 := (HBw2.out.cell (p := ⟨w.heap.size, 1, none⟩) hlt).trans HC1.out.2.1
      have z2 := (HBw2.out.cell (p := ⟨w.heap.size, 2, none⟩) hlt).trans HC1.out.2.2
      have g0 := (HBw2.out.frozen (p := ⟨w.heap.size, 0, none⟩) hlt).trans (HC0.out 0)
      have g1 := (HBw2.out.frozen (p := ⟨w.heap.size, 1, none⟩) hlt).trans (HC0.out 1)
      have g2 := (HBw2.out.frozen (p := ⟨w.heap.size, 2, none⟩) hlt).trans (HC0.out 2)
      have HBF : Hid (Below w.heap.size w w2) := HB0.out.trans (HBw2.out.mono HB0.out.size)
      have HTS := hidE (three_set (v0 := .string ⟨#[]⟩) (v1 := .string ⟨#[]⟩) (v2 := .int .i64 0) z0 z1 z2)
      clear hlt
      go_wp2
      obtain ⟨r0, r1, r2⟩ := HTS.out
      refine bodyPost_ret (v := .tuple #[.agg #[.string ⟨#[]⟩, .string ⟨#[]⟩, .int .i64 0], .bool false]) (by simp [results, Tryz.results80, go_sem, r0, r1, r2]) rfl ⟨rfl, ?_⟩
      exact ((HBF.out.setCell (p := ⟨w.heap.size, 0, none⟩) (Nat.le_refl _) _).setCell (p := ⟨w.heap.size, 1, none⟩) (Nat.le_refl _) _).setCell (p := ⟨w.heap.size, 2, none⟩) (Nat.le_refl _) _
end Go.Proofs.YtcfgacdcgljbaaaGreatDoor
