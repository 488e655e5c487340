/- The walk of tallymanlaw.postings. -/
import Derived.Test.YtcfgacdcgljbaaaGreatDoorRlSame
namespace Go.Proofs.YtcfgacdcgljbaaaGreatDoor
open Go.RowKit
set_option maxRecDepth 20000 in
set_option maxHeartbeats 4000000 in
theorem postings_any (ps : List Pst) (v : Value) (w : World) (h : PstsAt w v ps) (hl : ps.length ≤ 1000) :
    Calls Tryz.prog 27 #[v] w fun r w' => ∃ u, r = .returned u ∧ w'.ownsRow w.heap.size 159 3 u ps.length (ps.flatMap pstC) ∧ Below w.heap.size w w' := by
  obtain ⟨i0, hi, hz0, hz1, hz2⟩ := info_parts Tryz.infoRpst
  have H : Hid (PstsAt w v ps) := h
  have f1 : ∃ ad c, v = .slice ad ps.length c := by
    rcases h with ⟨e, e2⟩ | ⟨g, o, c, e, _⟩
    · exact ⟨none, 0, by rw [e, e2]; rfl⟩
    · exact ⟨_, _, e⟩
  obtain ⟨ad1, cp1, rfl⟩ := f1
  clear h
  go_enter Tryz.func27, Tryz.ntmps27
  go_wp2
  go_loopw [3, 4] (fun u i wr => ∃ k : Nat, k ≤ ps.length ∧ i = .int .i64 k ∧ Hid (wr.ownsRow w.heap.size 159 3 u (ps.take k).length ((ps.take k).flatMap pstC)) ∧ Hid (Below w.heap.size w wr)) (fun _ i _ => ps.length - (intOf i).toNat)
  case atStart => exact ⟨0, Nat.zero_le _, rfl, World.ownsRow_nil _ _ _ _, Below.refl _ _⟩
  case round =>
    obtain ⟨k, hk, rfl, HO, HB⟩ := hrel
    by_cases hlt : k < ps.length
    · rcases H.out with ⟨_, e2⟩ | ⟨g, o, c, e1, hg, p⟩
      · rw [e2] at hlt; exact absurd hlt (Nat.not_lt_zero _)
      simp only [Value.slice.injEq] at e1
      obtain ⟨rfl, _, rfl⟩ := e1
      have p0 := (HB.out.cell (p := ⟨g, o + k * 3 + 0, none⟩) hg).trans (p k 0 hlt (by omega))
      have p1 := (HB.out.cell (p := ⟨g, o + k * 3 + 1, none⟩) hg).trans (p k 1 hlt (by omega))
      have p2 := (HB.out.cell (p := ⟨g, o + k * 3 + 2, none⟩) hg).trans (p k 2 hlt (by omega))
      have HTK : Hid (ps.take (k + 1) = ps.take k ++ [ps[k]]) := List.take_succ_eq_append_getElem hlt
      have hql : (ps.take k).length ≤ 1000 := by rw [List.length_take]; omega
      clear p
      generalize ps[k] = y at p0 p1 p2 HTK
      obtain ⟨d, c, n⟩ := y
      simp only [pstC, List.getElem?_cons_zero, List.getElem?_cons_succ, Nat.add_zero] at p0 p1 p2
      obtain ⟨qs, hqs⟩ : ∃ q, q = ps.take k := ⟨_, rfl⟩
      rw [← hqs] at HO HTK hql
      clear hqs
      obtain ⟨ad, nn, cp, hv⟩ := own_lenL HO.out
      subst hv
      have hsz := HB.out.size
      go_wp2_with (first
        | (at_builtin; refine wpList_append_new _ rfl _ _ 78 rfl w.heap.size 159 i0 pstZ 3 40 Tryz.underlying78 hi hz0 hz1 hz2 rfl (by decide) (.slice ad nn cp) _ _ rfl (HO.out.alloc _) ⟨wr.heap.size, 0, none⟩ 1 1 (pstC ⟨d, c, n⟩) rfl rfl ?d1 ?d2 ?d3 ?d4 ?d5 (by omega) ?_)
        | go_in)
      case d1 => first | (simpa using rpst_new wr ⟨d, c, n⟩) | (intro j u h; simpa [pstC] using h)
      case d2 => exact pstC_one _
      case d3 => unfold maxLen; omega
      case d4 => omega
      case d5 => first | omega | (simp; omega)
      intro v' w2 hown2 hg2 hf2
      obtain ⟨ad2, nn2, cp2, hv2⟩ := own_lenL hown2
      subst hv2
      have HB2 : Hid (Below w.heap.size w w2) := by
        have b1 : Below w.heap.size w (wr.alloc (.cells #[.string d, .string c, .int .i64 n] 159)) := HB.out.alloc hsz _
        exact b1.grown hg2 b1.size (fun j hj => (HO.out.lt j hj).1)
      have HO2 : Hid (w2.ownsRow w.heap.size 159 3 (.slice ad2 nn2 cp2) (ps.take (k + 1)).length ((ps.take (k + 1)).flatMap pstC)) := by
        show w2.ownsRow _ _ _ _ _ _
        rw [HTK.out, List.length_append, List.flatMap_append]
        simpa using hown2
      clear hown2 hg2 hf2
      go_wp2
      go_roundw
      case rel => exact ⟨k + 1, by omega, by go_num, HO2, HB2⟩
      case measure => simp [intOf]; omega
    · obtain rfl : k = ps.length := by omega
      rw [List.take_length] at HO
      obtain ⟨ad, nn, cp, hv⟩ := own_lenL HO.out
      subst hv
      go_wp2
      go_ret
      exact ⟨_, rfl, HO.out, HB.out⟩
end Go.Proofs.YtcfgacdcgljbaaaGreatDoor
