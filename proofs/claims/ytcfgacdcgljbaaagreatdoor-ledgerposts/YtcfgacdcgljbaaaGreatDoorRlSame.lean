/- The walks of tallymanlaw.samePostings and tallymanlaw.postings. -/
import Derived.Test.YtcfgacdcgljbaaaGreatDoorBnG
import Derived.Test.YtcfgacdcgljbaaaGreatDoorRlPost
namespace Go.Proofs.YtcfgacdcgljbaaaGreatDoor
open Go.RowKit
theorem neq_rpst (a b : ByteArray) (c : Int) (w : World) : (binOp BinOp.neq 159 (.agg #[.string a, .string b, .int .i64 c]) (.agg #[.string a, .string b, .int .i64 c])).run Tryz.prog w = .ok (.bool false) w := by
  have hS : Tryz.prog.underlying 159 = some (.struct (Tryz.prog.fieldsOf 159)) := by kernel_rfl
  have hp : Tryz.prog.stoodInHeld 159 = false := by kernel_rfl
  have u3 := Tryz.underlying3
  have a3 := Tryz.isAgg3
  have z3 := Tryz.sizeOf3
  have u4 := Tryz.underlying9
  have a4 := Tryz.isAgg9
  have z4 := Tryz.sizeOf9
  rw [run_neq_struct, show (10000 : Nat) = 9999 + 1 from rfl, run_equalIn_agg w 9999 159 _ _ hS hp]
  simp only [Program.fieldsOf, Tryz.underlying159]
  go_simp
theorem PstsAt.drewR {w : World} {v : Value} {ps : List Pst} (h : PstsAt w v ps) (m : Nat) : PstsAt (w.drewN m) v ps := h.below ⟨rfl, rfl, rfl, Nat.le_refl _, fun _ _ => rfl⟩
set_option maxHeartbeats 1000000 in
theorem samePst_any (ps : List Pst) (v1 v2 : Value) (w : World) (h1 : PstsAt w v1 ps) (h2 : PstsAt w v2 ps) (hl : ps.length ≤ 1000000) :
    Calls Tryz.prog 22 #[v1, v2] w fun r w' => r = .returned (.bool true) ∧ ∃ m, w' = w.drewN m := by
  have H1 : Hid (PstsAt w v1 ps) := h1
  have H2 : Hid (PstsAt w v2 ps) := h2
  have f1 : ∃ ad c, v1 = .slice ad ps.length c := by
    rcases h1 with ⟨e, e2⟩ | ⟨g, o, c, e, _⟩
    · exact ⟨none, 0, by rw [e, e2]; rfl⟩
    · exact ⟨_, _, e⟩
  have f2 : ∃ ad c, v2 = .slice ad ps.length c := by
    rcases h2 with ⟨e, e2⟩ | ⟨g, o, c, e, _⟩
    · exact ⟨none, 0, by rw [e, e2]; rfl⟩
    · exact ⟨_, _, e⟩
  obtain ⟨ad1, cp1, rfl⟩ := f1
  obtain ⟨ad2, cp2, rfl⟩ := f2
  clear h1 h2
  go_enter Tryz.func22, Tryz.ntmps22
  go_wp2
  go_loopw [5] (fun i wr => ∃ k : Nat, k ≤ ps.length ∧ i = .int .i64 k ∧ ∃ m, wr = w.drewN m) (fun i _ => ps.length - (intOf i).toNat)
  case atStart => exact ⟨0, Nat.zero_le _, rfl, 0, rfl⟩
  case round =>
    obtain ⟨k, hk, rfl, m0, hwr⟩ := hrel
    have HWR : Hid (wr = w.drewN m0) := hwr
    by_cases hlt : k < ps.length
    · have hA1 := H1.out.drewR m0
      have hA2 := H2.out.drewR m0
      rw [← hwr] at hA1 hA2
      clear hwr
      rcases hA1 with ⟨_, e2⟩ | ⟨g1, o1, c1, e1, _, p⟩
      · rw [e2] at hlt; exact absurd hlt (Nat.not_lt_zero _)
      rcases hA2 with ⟨_, e2⟩ | ⟨g2, o2, c2, e2, _, q⟩
      · rw [e2] at hlt; exact absurd hlt (Nat.not_lt_zero _)
      simp only [Value.slice.injEq] at e1 e2
      obtain ⟨rfl, _, rfl⟩ := e1
      obtain ⟨rfl, _, rfl⟩ := e2
      have p0 := p k 0 hlt (by omega)
      have p1 := p k 1 hlt (by omega)
      have p2 := p k 2 hlt (by omega)
      have q0 := q k 0 hlt (by omega)
      have q1 := q k 1 hlt (by omega)
      have q2 := q k 2 hlt (by omega)
      clear p q
      generalize ps[k] = y at p0 p1 p2 q0 q1 q2
      obtain ⟨d, c, n⟩ := y
      simp only [pstC, List.getElem?_cons_zero, List.getElem?_cons_succ, Nat.add_zero] at p0 p1 p2 q0 q1 q2
      have hne := neq_rpst d c n
      have mixed : Tryz.prog.follows .mixedOrders = true := by kernel_rfl
      go_wp2_with fail
      go_quiet (fail)
      go_wp2
      go_roundw
      case rel => exact ⟨k + 1, by omega, by go_num, m0 + nq, by rw [HWR.out, World.drewN_drewN]⟩
      case measure => simp [intOf]; omega
    · obtain rfl : k = ps.length := by omega
      clear hwr
      go_wp2
      go_ret
      exact ⟨rfl, m0, HWR.out⟩
end Go.Proofs.YtcfgacdcgljbaaaGreatDoor
