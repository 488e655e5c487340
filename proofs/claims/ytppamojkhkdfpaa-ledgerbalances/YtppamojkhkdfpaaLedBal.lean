/- The walk of tallymankeep.LedgerBalances. -/
import Derived.Test.YtppamojkhkdfpaaLedOf
import Derived.Test.YtppamojkhkdfpaaLedSame
import Derived.Test.YtppamojkhkdfpaaLedSmall
import Derived.Test.YtppamojkhkdfpaaLedClone
import Derived.Test.YtppamojkhkdfpaaLedApp
namespace Go.Proofs.Ytppamojkhkdfpaa
open Go.RowKit Go.Maps
theorem postL_good {f : Fig} (h : f.bd) : ∀ p ∈ postL f, Good p := by
  obtain ⟨g1, g2, g3, g4, g5, g6, g7, g8, g9, g10, g11, g12, g13, g14, g15⟩ := ne_acc
  obtain ⟨h1, h2, h3, h4, h5⟩ := h
  unfold bnd at h1 h2 h3 h4 h5
  intro p hp
  unfold postL at hp
  rw [List.mem_flatMap] at hp
  obtain ⟨q, hq, hp⟩ := hp
  have hq2 : bnd q.amt ∧ q.deb ≠ q.cre := by
    simp only [fives, List.mem_cons, List.not_mem_nil, or_false] at hq
    unfold bnd
    rcases hq with rfl | rfl | rfl | rfl | rfl
    · exact ⟨h1, g1⟩
    · exact ⟨h2, g2.symm⟩
    · exact ⟨h3, g3.symm⟩
    · exact ⟨h4, g4⟩
    · exact ⟨h5, g9.symm⟩
  unfold bnd at hq2
  unfold post1 at hp
  unfold Good
  split at hp
  · simp only [List.mem_singleton] at hp; subst hp; exact ⟨by assumption, hq2.2⟩
  · split at hp
    · rename_i c
      simp only [List.mem_singleton] at hp; subst hp
      refine ⟨?_, hq2.2.symm⟩
      show 0 < wrap64 (-q.amt)
      unfold wrap64; omega
    · cases hp
/-- Figures added are postings added. -/
theorem bal_plus (f g : Fig) (x : ByteArray) : bal x 0 (postL f ++ postL g) = bal x 0 (postL (f.plus g)) := by
  rw [bal_zero, bal_zero, sigs_append, ← wrap_add, sigs_postL, wrap_add, ← wrap_add', sigs_postL, wrap_add', sigs_postL]
  unfold Fig.plus lin
  simp only
  by_cases e1 : x = aStock
  · simp only [if_pos e1]; unfold wrap64; omega
  · simp only [if_neg e1]
    by_cases e2 : x = aSupply
    · simp only [if_pos e2]; unfold wrap64; omega
    · simp only [if_neg e2]
      by_cases e3 : x = aSold
      · simp only [if_pos e3]; unfold wrap64; omega
      · simp only [if_neg e3]
        by_cases e4 : x = aLoss
        · simp only [if_pos e4]; unfold wrap64; omega
        · simp only [if_neg e4]
          by_cases e5 : x = aGain
          · simp only [if_pos e5]; unfold wrap64; omega
          · simp only [if_neg e5]
            by_cases e6 : x = aLate
            · simp only [if_pos e6]; unfold wrap64; omega
            · simp only [if_neg e6]; rfl
/-- Figures turned are postings turned. -/
theorem bal_turn (f : Fig) (x : ByteArray) : bal x 0 (postL f ++ postL (fig0.minus f)) = 0 := by
  rw [bal_zero, sigs_append, ← wrap_add, sigs_postL, wrap_add, ← wrap_add', sigs_postL, wrap_add']
  unfold Fig.minus fig0 lin
  simp only
  by_cases e1 : x = aStock
  · simp only [if_pos e1]; unfold wrap64; omega
  · simp only [if_neg e1]
    by_cases e2 : x = aSupply
    · simp only [if_pos e2]; unfold wrap64; omega
    · simp only [if_neg e2]
      by_cases e3 : x = aSold
      · simp only [if_pos e3]; unfold wrap64; omega
      · simp only [if_neg e3]
        by_cases e4 : x = aLoss
        · simp only [if_pos e4]; unfold wrap64; omega
        · simp only [if_neg e4]
          by_cases e5 : x = aGain
          · simp only [if_pos e5]; unfold wrap64; omega
          · simp only [if_neg e5]
            by_cases e6 : x = aLate
            · simp only [if_pos e6]; unfold wrap64; omega
            · simp only [if_neg e6]; unfold wrap64; omega
theorem bal_no {f : Fig} {x : ByteArray} (h1 : x ≠ aStock) (h2 : x ≠ aSupply) (h3 : x ≠ aSold) (h4 : x ≠ aLoss) (h5 : x ≠ aGain) (h6 : x ≠ aLate) : bal x 0 (postL f) = 0 := by
  rw [bal_zero, sigs_postL]
  unfold lin
  rw [if_neg h1, if_neg h2, if_neg h3, if_neg h4, if_neg h5, if_neg h6]
  simp [wrap64]
set_option maxRecDepth 20000 in
set_option maxHeartbeats 4000000 in
theorem ledgerBalances_walk (f g : Fig) (w : World) (hf : f.ok) (hg : g.ok) : Calls Try.prog 3 #[figV f, figV g] w fun r w' => r = .returned (.bool true) ∧ Below w.heap.size w w' := by
  obtain ⟨w0, hw0⟩ : ∃ W, W = (w.alloc (.cells (figC f).toArray 23)).alloc (.cells (figC g).toArray 23) := ⟨_, rfl⟩
  have hb0 : Below w.heap.size w w0 := by rw [hw0]; exact ((Below.refl _ _).alloc (Nat.le_refl _) _).alloc (by simp) _
  have hF0 : ∀ j, w0.cell? ⟨w.heap.size, j, none⟩ = (figC f)[j]? := fun j => by rw [hw0]; simp [figC]
  have hG0 : ∀ j, w0.cell? ⟨w.heap.size + 1, j, none⟩ = (figC g)[j]? := fun j => by rw [hw0]; simp [figC]
  have hs0 : w0.heap.size = w.heap.size + 2 := by rw [hw0]; simp
  have hpo := posted_any w0
  have HB0 := hidE hb0
  have HF0 := hidE hF0
  have HG0 := hidE hG0
  have HW0 : Hid (w0 = (w.alloc (.cells #[.int .i64 f.inn, .int .i64 f.out, .int .i64 f.loss, .int .i64 f.gain, .int .i64 f.late] 23)).alloc (.cells #[.int .i64 g.inn, .int .i64 g.out, .int .i64 g.loss, .int .i64 g.gain, .int .i64 g.late] 23)) := hw0
  clear hw0 hb0 hF0 hG0
  unfold figV
  go_enter Try.func3, Try.ntmps3
  go_wp2_with fail
  rw [← HW0.out]
  refine hpo.mono ?_
  rintro r w1 ⟨rfl, hb1⟩
  have fC : ∀ W : World, Below w0.heap.size w0 W → ∀ j, W.cell? ⟨w.heap.size, j, none⟩ = (figC f)[j]? := fun W hb j => (hb.cell (p := ⟨w.heap.size, j, none⟩) (by show w.heap.size < _; omega)).trans (HF0.out j)
  have gC : ∀ W : World, Below w0.heap.size w0 W → ∀ j, W.cell? ⟨w.heap.size + 1, j, none⟩ = (figC g)[j]? := fun W hb j => (hb.cell (p := ⟨w.heap.size + 1, j, none⟩) (by show w.heap.size + 1 < _; omega)).trans (HG0.out j)
  have HFC := hidE fC
  have HGC := hidE gC
  have f0 := fC w1 hb1 0
  have f1 := fC w1 hb1 1
  have f2 := fC w1 hb1 2
  have f3 := fC w1 hb1 3
  have f4 := fC w1 hb1 4
  simp only [figC, List.getElem?_cons_zero, List.getElem?_cons_succ] at f0 f1 f2 f3 f4
  have hbf := bounded_any f w1
  unfold figV at hbf
  clear fC gC hpo
  go_wp2_with fail
  refine hbf.mono ?_
  rintro r w2 ⟨rfl, hb2⟩
  have hb02 : Below w0.heap.size w0 w2 := hb1.trans (hb2.mono hb1.size)
  have HB2 := hidE hb02
  clear f0 f1 f2 f3 f4 hbf hb1 hb2
  by_cases hfb : f.bd
  · rw [bdB_yes hfb]
    have g0 := HGC.out w2 hb02 0
    have g1 := HGC.out w2 hb02 1
    have g2 := HGC.out w2 hb02 2
    have g3 := HGC.out w2 hb02 3
    have g4 := HGC.out w2 hb02 4
    simp only [figC, List.getElem?_cons_zero, List.getElem?_cons_succ] at g0 g1 g2 g3 g4
    have hbg := bounded_any g w2
    unfold figV at hbg
    clear hb02
    go_wp2_with fail
    refine hbg.mono ?_
    rintro r w3 ⟨rfl, hb3⟩
    have hb03 : Below w0.heap.size w0 w3 := HB2.out.trans (hb3.mono HB2.out.size)
    have HB3 := hidE hb03
    clear g0 g1 g2 g3 g4 hbg hb3
    by_cases hgb : g.bd
    · rw [bdB_yes hgb]
      go_wp2_with fail
      refine wp_region_mix [(true, 0), (true, 2), (false, 1), (false, 3), (true, 4), (true, 5)] (by kernel_rfl) (by kernel_rfl) ?_
      obtain ⟨W3, hW3⟩ : ∃ W, W = w3.drew := ⟨_, rfl⟩
      rw [← hW3]
      have hB3 : Below w0.heap.size w0 W3 := by rw [hW3]; exact HB3.out.trans ((below_drew _).mono HB3.out.size)
      clear hW3 hb03
      have f0 := fun n : Up W3 => n.cell (HFC.out W3 hB3 0)
      have f1 := fun n : Up W3 => n.cell (HFC.out W3 hB3 1)
      have f2 := fun n : Up W3 => n.cell (HFC.out W3 hB3 2)
      have f3 := fun n : Up W3 => n.cell (HFC.out W3 hB3 3)
      have f4 := fun n : Up W3 => n.cell (HFC.out W3 hB3 4)
      have g0 := fun n : Up W3 => n.cell (HGC.out W3 hB3 0)
      have g1 := fun n : Up W3 => n.cell (HGC.out W3 hB3 1)
      have g2 := fun n : Up W3 => n.cell (HGC.out W3 hB3 2)
      have g3 := fun n : Up W3 => n.cell (HGC.out W3 hB3 3)
      have g4 := fun n : Up W3 => n.cell (HGC.out W3 hB3 4)
      have hU := up_ne
      have hA := anyW_ne
      have HB3' := hidE hB3
      clear hB3
      repeat (refine mix_q rfl ?_; go_big_quiet_step (fail); refine wpQuiet_nil ?_)
      clear f0 f1 f2 f3 f4 g0 g1 g2 g3 g4
      have hpf := post_any f W3
      unfold figV at hpf
      refine mix_n rfl ?_
      go_wp2_with fail
      refine hpf.mono ?_
      rintro r w4 ⟨xv, rfl, hox, hb4⟩
      obtain ⟨adx, nx, cx, hxv⟩ := own_lenL hox
      subst hxv
      go_wp2_with fail
      refine ⟨rfl, hb4, ?_⟩
      have hpg := post_any g w4
      unfold figV at hpg
      refine mix_n rfl ?_
      go_wp2_with fail
      refine hpg.mono ?_
      rintro r w5 ⟨yv, rfl, hoy, hb5⟩
      obtain ⟨ady, ny, cy, hyv⟩ := own_lenL hoy
      subst hyv
      go_wp2_with fail
      refine ⟨rfl, hb5, ?_⟩
      repeat (refine mix_q rfl ?_; go_big_quiet_step (fail); refine wpQuiet_nil ?_)
      refine mix_nil ?_
      have hox5 := own_below hox hb5 (Nat.le_refl _)
      have hB5 : Below w0.heap.size w0 w5 := (HB3'.out.trans (hb4.mono HB3'.out.size)).trans (hb5.mono (Nat.le_trans HB3'.out.size hb4.size))
      have HOX := hidE hox5
      have HOY := hidE hoy
      have HB5 := hidE hB5
      have hs5 := hB5.size
      clear hpf hpg hox hoy hox5 hB5 hb4 hb5
      have hcl := pclone_any (postL f) _ w5 HOX.out (by have := postL_len f; omega)
      go_wp2_with fail
      refine hcl.mono ?_
      rintro r w6 ⟨cv, rfl, hoc, hb6⟩
      obtain ⟨adc, nc, cc, hcv⟩ := own_lenL hoc
      subst hcv
      have hy6 : PstsAt w6 (.slice ady ny cy) (postL g) := (PstsAt.of_own HOY.out).below hb6
      have hs6 := hb6.size
      have HOC := hidE hoc
      have HB6 := hidE hb6
      have HY6 := hidE hy6
      have hlf := postL_len f
      have hlg := postL_len g
      clear hoc hb6 hy6 hcl
      go_wp2_with (first
        | (at_builtin; refine wpList_app_psts rfl _ _ rfl w5.heap.size (.slice adc nc cc) (postL f) (postL g) rfl HOC.out (.slice ady ny cy) rfl HY6.out (by omega) hs6 ?_)
        | go_in)
      intro zv w7 hoz hg7
      obtain ⟨adz, nz, cz, hzv⟩ := own_lenL hoz
      subst hzv
      have hoz : w7.ownsRow w5.heap.size 37 3 (.slice adz nz cz) (postL f ++ postL g).length ((postL f ++ postL g).flatMap pstC) := by
        first
          | exact hoz
          | (rw [List.length_append, List.flatMap_append]; exact hoz)
      have hb57 : Below w5.heap.size w5 w7 := HB6.out.grown hg7 hs6 (fun j hj => (HOC.out.lt j hj).1)
      have hszf := postL_ok f hf
      have hszg := postL_ok g hg
      have hsz2 : ∀ p ∈ postL f ++ postL g, p.deb.size ≤ 1000 ∧ p.cre.size ≤ 1000 := fun p hp => by
        rcases List.mem_append.1 hp with h | h
        · exact (hszf p h).2
        · exact (hszg p h).2
      have hof := of_any (postL f ++ postL g) _ w7 (PstsAt.of_own hoz) (by rw [List.length_append]; omega) hsz2
      have HB57 := hidE hb57
      clear hoz hg7 hb57 hszf hszg hsz2
      go_wp2_with fail
      refine hof.mono ?_
      rintro r w8 ⟨mb, n1, D1, rfl, hmb, hM8, hb8⟩
      have hb58 : Below w5.heap.size w5 w8 := HB57.out.trans (hb8.mono HB57.out.size)
      have hs8 := hb58.size
      have hB8 : Below w0.heap.size w0 w8 := HB5.out.trans (hb58.mono HB5.out.size)
      have hlk := hM8.lookOk ⟨#[119, 114, 111, 110, 103]⟩ (by unfold maxLen; decide) (fun h => h (by
        rw [bal_plus]
        exact bal_no (by decide) (by decide) (by decide) (by decide) (by decide) (by decide)))
      have f0 := HFC.out w8 hB8 0
      have f1 := HFC.out w8 hB8 1
      have f2 := HFC.out w8 hB8 2
      have f3 := HFC.out w8 hB8 3
      have f4 := HFC.out w8 hB8 4
      have g0 := HGC.out w8 hB8 0
      have g1 := HGC.out w8 hB8 1
      have g2 := HGC.out w8 hB8 2
      have g3 := HGC.out w8 hB8 3
      have g4 := HGC.out w8 hB8 4
      simp only [figC, List.getElem?_cons_zero, List.getElem?_cons_succ] at f0 f1 f2 f3 f4 g0 g1 g2 g3 g4
      have HM8 := hidE hM8
      have HB58 := hidE hb58
      have HB8 := hidE hB8
      have hpl := plus_any f g w8
      unfold figV at hpl
      clear hM8 hb58 hB8 hb8 hof
      go_wp2_with fail
      refine hpl.mono ?_
      rintro r w9 ⟨rfl, hb9⟩
      have hpp := post_any (f.plus g) w9
      unfold figV at hpp
      clear hlk f0 f1 f2 f3 f4 g0 g1 g2 g3 g4 hpl
      go_wp2_with fail
      refine hpp.mono ?_
      rintro r w10 ⟨pv, rfl, hop, hb10⟩
      obtain ⟨adp, np, cpp, hpv⟩ := own_lenL hop
      subst hpv
      have hlp := postL_len (f.plus g)
      have hof2 := of_any (postL (f.plus g)) _ w10 (PstsAt.of_own hop) (by omega) (fun p hp => (postL_ok _ (plus_ok f g) p hp).2)
      have hb810 : Below w8.heap.size w8 w10 := hb9.trans (hb10.mono hb9.size)
      have HB810 := hidE hb810
      clear hop hb9 hb10 hpp hb810
      go_wp2_with fail
      refine hof2.mono ?_
      rintro r w11 ⟨mb2, n2, D2, rfl, hmb2, hM11, hb11⟩
      have hb811 : Below w8.heap.size w8 w11 := HB810.out.trans (hb11.mono HB810.out.size)
      have hM8' := HM8.out.below hb811
      have hsm := same_any (imap_ext hM8' (fun x => (bal_plus f g x).symm) (fun x => by rw [bal_plus])) hM11
      have HB811 := hidE hb811
      clear hof2 hM11 hb11 hb811 hM8'
      go_wp2_with fail
      refine hsm.mono ?_
      rintro r w12 ⟨rfl, hb12⟩
      have hb512 : Below w5.heap.size w5 w12 := HB58.out.trans ((HB811.out.trans (hb12.mono HB811.out.size)).mono hs8)
      have HB512 := hidE hb512
      clear hsm hb12 hb512
      go_wp2_with fail
      refine wp_region_turn [(.pure, 0), (.pure, 1), (.pure, 3), (.read, 4), (.make, 2), (.make, 5), (.make, 6), (.turn, 7), (.make, 8), (.pure, 9)] (by kernel_rfl) (by kernel_rfl) ?_
      obtain ⟨W, hW⟩ : ∃ W, W = w12.drew := ⟨_, rfl⟩
      rw [← hW]
      have hb5W : Below w5.heap.size w5 W := by rw [hW]; exact HB512.out.trans ((below_drew _).mono HB512.out.size)
      clear hW
      have hBW : Below w0.heap.size w0 W := HB5.out.trans (hb5W.mono HB5.out.size)
      have f0 := fun n : Up W => n.cell (HFC.out W hBW 0)
      have f1 := fun n : Up W => n.cell (HFC.out W hBW 1)
      have f2 := fun n : Up W => n.cell (HFC.out W hBW 2)
      have f3 := fun n : Up W => n.cell (HFC.out W hBW 3)
      have f4 := fun n : Up W => n.cell (HFC.out W hBW 4)
      have HB5W := hidE hb5W
      have hsW := hb5W.size
      clear hb5W hBW
      repeat (first | refine turn_p rfl ?_ | refine turn_q rfl ?_); go_big_quiet_step (fail); refine wpQuiet_nil ?_
      clear f0 f1 f2 f3 f4
      have hcl := pclone_any (postL f) _ W (own_below HOX.out HB5W.out (Nat.le_refl _)) (by omega)
      refine turn_n rfl ?_
      go_wp2_with fail
      refine hcl.mono ?_
      rintro r w13 ⟨cv, rfl, hoc, hb13⟩
      obtain ⟨adc2, nc2, cc2, hcv⟩ := own_lenL hoc
      subst hcv
      go_wp2_with fail
      refine ⟨rfl, hb13, ?_⟩
      have hmi := minus_any fig0 f w13
      unfold figV fig0 at hmi
      simp only at hmi
      refine turn_n rfl ?_
      go_wp2_with fail
      refine hmi.mono ?_
      rintro r w14 ⟨rfl, hb14⟩
      go_wp2_with fail
      refine ⟨rfl, hb14, ?_⟩
      obtain ⟨mf, hmf⟩ : ∃ m, m = Fig.minus ⟨0, 0, 0, 0, 0⟩ f := ⟨_, rfl⟩
      rw [← hmf]
      have HMF : Hid (mf = fig0.minus f) := hmf
      clear hmf
      have hpm := post_any mf w14
      unfold figV at hpm
      refine turn_n rfl ?_
      go_wp2_with fail
      refine hpm.mono ?_
      rintro r w15 ⟨mv, rfl, hom, hb15⟩
      obtain ⟨adm, nm, cm, hmv⟩ := own_lenL hom
      subst hmv
      go_wp2_with fail
      refine ⟨rfl, hb15, ?_⟩
      have hb1315 : Below w13.heap.size w13 w15 := hb14.trans (hb15.mono hb14.size)
      have hoc15 := own_below hoc hb1315 (Nat.le_refl _)
      have hlm := postL_len mf
      have hs13 := hb13.size
      have hs1315 := hb1315.size
      have HOC2 := hidE hoc15
      have HOM := hidE (PstsAt.of_own hom)
      have HBW15 : Hid (Below W.heap.size W w15) := hb13.trans (hb1315.mono hs13)
      clear hcl hmi hpm hoc hom hb13 hb14 hb15 hb1315 hoc15
      refine turn_t rfl ?_
      refine wpList_app_psts rfl _ _ rfl W.heap.size (.slice adc2 nc2 cc2) (postL f) (postL mf) rfl HOC2.out (.slice adm nm cm) rfl HOM.out (by omega) (by omega) ?_
      intro zv w16 hoz hg16
      obtain ⟨adz2, nz2, cz2, hzv⟩ := own_lenL hoz
      subst hzv
      have hbW16 : Below W.heap.size W w16 := HBW15.out.grown hg16 HBW15.out.size (fun j hj => (HOC2.out.lt j hj).1)
      have HBW16 := hidE hbW16
      have HOZ := hidE hoz
      clear hoz hg16 hbW16
      go_wp2_with fail
      refine ⟨rfl, ?_⟩
      have hmok : mf.ok := by rw [HMF.out]; exact minus_ok _ _
      have hof3 := of_any (postL f ++ postL mf) _ w16 (PstsAt.of_own HOZ.out) (by rw [List.length_append]; omega) (fun p hp => by
        rcases List.mem_append.1 hp with h | h
        · exact (postL_ok f hf p h).2
        · exact (postL_ok mf hmok p h).2)
      refine turn_n rfl ?_
      go_wp2_with fail
      refine hof3.mono ?_
      rintro r w17 ⟨mb3, n3, D3, rfl, hmb3, hM17, hb17⟩
      go_wp2_with fail
      refine ⟨rfl, hb17, ?_⟩
      repeat (first | refine turn_p rfl ?_ | refine turn_q rfl ?_); go_big_quiet_step (fail); refine wpQuiet_nil ?_
      refine turn_nil ?_
      have hz3 : Maps.size D3 = 0 := imap_none hM17 (fun x h => h (by rw [HMF.out]; exact bal_turn f x))
      have hlen := fun ty => hM17.map.len Try.underlying27 ty
      rw [hz3] at hlen
      have hbW17 : Below W.heap.size W w17 := HBW16.out.trans (hb17.mono HBW16.out.size)
      have hb517 : Below w5.heap.size w5 w17 := HB5W.out.trans (hbW17.mono hsW)
      have hcn := cont_none (postL f) _ w17 (PstsAt.of_own (own_below HOX.out hb517 (Nat.le_refl _))) (postL_good hfb) (by omega)
      have HBE : Hid (Below w.heap.size w w17) := HB0.out.trans ((HB5.out.trans (hb517.mono HB5.out.size)).mono HB0.out.size)
      clear hof3 hM17 hb17 hbW17 hb517 hz3
      go_wp2_with fail
      refine hcn.mono ?_
      rintro r w18 ⟨rfl, hb18⟩
      have HBF : Hid (Below w.heap.size w w18) := HBE.out.trans (hb18.mono HBE.out.size)
      clear hcn hb18 hlen
      go_wp2
      go_ret
      exact ⟨rfl, HBF.out⟩
    · rw [bdB_no hgb]
      have HE : Hid (Below w.heap.size w w3) := HB0.out.trans (HB3.out.mono HB0.out.size)
      go_wp2
      go_ret
      exact ⟨rfl, HE.out⟩
  · rw [bdB_no hfb]
    have HE : Hid (Below w.heap.size w w2) := HB0.out.trans (HB2.out.mono HB0.out.size)
    go_wp2
    go_ret
    exact ⟨rfl, HE.out⟩
end Go.Proofs.Ytppamojkhkdfpaa
