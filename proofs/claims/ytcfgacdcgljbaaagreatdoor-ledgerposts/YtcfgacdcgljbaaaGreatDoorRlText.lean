/- The walk of tallymanref.PostingsText. -/
import Derived.Test.YtcfgacdcgljbaaaGreatDoorBnF
import Derived.Test.YtcfgacdcgljbaaaGreatDoorRlPosts
import Derived.Test.YtcfgacdcgljbaaaGreatDoorBnB
import Derived.Test.YtcfgacdcgljbaaaGreatDoorBnI
namespace Go.Proofs.YtcfgacdcgljbaaaGreatDoor
open Go.RowKit
set_option maxRecDepth 20000 in
set_option maxHeartbeats 4000000 in
theorem rtext_any (ps : List Pst) (v : Value) (w : World) (h : PstsAt w v ps) (hg : Glob w) (hl : ps.length ≤ 10000) (hs : ∀ p ∈ ps, I64 p.amt ∧ p.deb.size ≤ 1000 ∧ p.cre.size ≤ 1000) :
    Calls Tryz.prog 26 #[v] w fun r w' => r = .returned (.string ⟨(printL ps).toArray⟩) ∧ Below w.heap.size w w' := by
  have H : Hid (PstsAt w v ps) := h
  have HG : Hid (Glob w) := hg
  have HS := hidE hs
  have HLN := hidE (fun k => printL_len (ps.take k) (fun p hp => hs p (List.mem_of_mem_take hp)))
  have f1 : ∃ ad c, v = .slice ad ps.length c := by
    rcases h with ⟨e, e2⟩ | ⟨g, o, c, e, _⟩
    · exact ⟨none, 0, by rw [e, e2]; rfl⟩
    · exact ⟨_, _, e⟩
  obtain ⟨ad1, cp1, rfl⟩ := f1
  clear h hg hs
  go_enter Tryz.func26, Tryz.ntmps26
  go_wp2
  go_loopw [3, 8] (fun sv i wr => ∃ (k : Nat) (t : ByteArray), k ≤ ps.length ∧ i = .int .i64 k ∧ sv = .string t ∧ Hid (t.data.toList = printL (ps.take k)) ∧ Hid (Below w.heap.size w wr)) (fun _ i _ => ps.length - (intOf i).toNat)
  case atStart => exact ⟨0, ⟨#[]⟩, Nat.zero_le _, rfl, rfl, rfl, Below.refl _ _⟩
  case round =>
    obtain ⟨k, t, hk, rfl, rfl, HD, HB⟩ := hrel
    have zt : t.size ≤ 21000000 := by
      have h1 := HLN.out k
      rw [← HD.out, List.length_take] at h1
      have h2 := ba_len t
      have h3 : min k ps.length * 2100 ≤ 10000 * 2100 := Nat.mul_le_mul_right _ (by omega)
      omega
    by_cases hlt : k < ps.length
    · have hkz : (k : Int) < (ps.length : Int) := by omega
      rcases H.out with ⟨_, e2⟩ | ⟨g, o, c, e1, hg, p⟩
      · rw [e2] at hlt; exact absurd hlt (Nat.not_lt_zero _)
      simp only [Value.slice.injEq] at e1
      obtain ⟨rfl, _, rfl⟩ := e1
      have p0 := (HB.out.cell (p := ⟨g, o + k * 3 + 0, none⟩) hg).trans (p k 0 hlt (by omega))
      have p1 := (HB.out.cell (p := ⟨g, o + k * 3 + 1, none⟩) hg).trans (p k 1 hlt (by omega))
      have p2 := (HB.out.cell (p := ⟨g, o + k * 3 + 2, none⟩) hg).trans (p k 2 hlt (by omega))
      have HTK : Hid (printL (ps.take (k + 1)) = printL (ps.take k) ++ pline ps[k]) := printL_snoc hlt
      have hsz := HS.out ps[k] (List.getElem_mem hlt)
      clear p
      generalize ps[k] = y at p0 p1 p2 HTK hsz
      obtain ⟨d, c, n⟩ := y
      simp only [pstC, List.getElem?_cons_zero, List.getElem?_cons_succ, Nat.add_zero] at p0 p1 p2
      simp only at hsz
      obtain ⟨hi, zd, zc⟩ := hsz
      obtain ⟨am, ham⟩ : ∃ a : ByteArray, a = ⟨(byt (amt n)).toArray⟩ := ⟨_, rfl⟩
      have hamt := fun (v : World) (hv : Glob v) => amount_any n v hv hi.1 hi.2
      rw [← ham] at hamt
      have za : am.size ≤ 25 := by
        have h1 := amt_len n hi.1 hi.2
        have h2 := ba_len am
        rw [ham] at h2 ⊢
        simp [byt] at h2 ⊢
        omega
      have HAM : Hid (am.data.toList = byt (amt n)) := by rw [ham]; rfl
      have HAMT := hidE hamt
      obtain ⟨W1, hW1⟩ : ∃ W, W = wr.alloc (.cells #[.string d, .string c, .int .i64 n] 159) := ⟨_, rfl⟩
      have hb1 : Below wr.heap.size wr W1 := by rw [hW1]; exact (Below.refl _ _).alloc (Nat.le_refl _) _
      have q0 : W1.cell? ⟨wr.heap.size, 0, none⟩ = some (.string d) := by rw [hW1]; simp
      have q1 : W1.cell? ⟨wr.heap.size, 1, none⟩ = some (.string c) := by rw [hW1]; simp
      have q2 : W1.cell? ⟨wr.heap.size, 2, none⟩ = some (.int .i64 n) := by rw [hW1]; simp
      have HW1 := hidE hW1
      have HB1 := hidE hb1
      have HQ := hidE (And.intro q0 (And.intro q1 q2))
      clear ham hamt hi hW1 hb1 q0 q1 q2
      go_wp2_with fail
      rw [← HW1.out]
      refine wp_region_mix [(true, 0), (true, 1), (true, 2), (true, 5), (true, 6), (true, 9), (true, 10), (false, 3), (true, 4), (true, 7), (true, 8), (true, 11), (true, 12), (true, 13), (true, 14)] (by kernel_rfl) (by kernel_rfl) ?_
      obtain ⟨W2, hW2⟩ : ∃ W, W = W1.drew := ⟨_, rfl⟩
      rw [← hW2]
      have hb2 : Below W1.heap.size W1 W2 := by rw [hW2]; exact below_drew _
      have hB2 : Below w.heap.size w W2 := (HB.out.trans (HB1.out.mono HB.out.size)).trans (hb2.mono (HB.out.trans (HB1.out.mono HB.out.size)).size)
      have r0 := below_cellL hb2 HQ.out.1
      have r1 := below_cellL hb2 HQ.out.2.1
      have r2 := below_cellL hb2 HQ.out.2.2
      have f0 := fun n : Up W2 => n.cell r0
      have f1 := fun n : Up W2 => n.cell r1
      have f2 := fun n : Up W2 => n.cell r2
      have hU := up_ne
      clear hW2 p0 p1 p2 r0 r1 r2
      repeat (refine mix_q rfl ?_; go_big_quiet_step (fail); refine wpQuiet_nil ?_)
      refine mix_n rfl ?_
      clear f0 f1 f2
      go_wp2_with fail
      refine (HAMT.out W2 (HG.out.below hB2)).mono ?_
      rintro r W3 ⟨rfl, hb3⟩
      have HB3 : Hid (Below w.heap.size w W3) := hB2.trans (hb3.mono hB2.size)
      go_wp2_with fail
      refine ⟨rfl, hb3, ?_⟩
      clear hb3 hB2 hb2
      repeat (refine mix_q rfl ?_; go_big_quiet_step (fail); refine wpQuiet_nil ?_)
      refine mix_nil ?_
      obtain ⟨t2, ht2⟩ : ∃ x : ByteArray, x = t ++ (am ++ ⟨#[32]⟩ ++ d ++ ⟨#[32, 102, 114, 111, 109, 32]⟩ ++ c ++ ⟨#[10]⟩) := ⟨_, rfl⟩
      have HD2 : Hid (t2.data.toList = printL (ps.take (k + 1))) := by
        show _ = _
        rw [HTK.out, ht2, ← HD.out]
        simp only [ba_append, HAM.out, pline]
      rw [← ht2]
      clear ht2
      go_wp2
      go_roundw
      case rel => exact ⟨k + 1, t2, by omega, by go_num, rfl, HD2, HB3⟩
      case measure => simp [intOf]; omega
    · obtain rfl : k = ps.length := by omega
      rw [List.take_length] at HD
      have hkz : ¬ (ps.length : Int) < (ps.length : Int) := by omega
      have ht : t = ⟨(printL ps).toArray⟩ := by
        rw [← HD.out]
      go_wp2
      go_ret
      exact ⟨rfl, HB.out⟩
end Go.Proofs.YtcfgacdcgljbaaaGreatDoor
