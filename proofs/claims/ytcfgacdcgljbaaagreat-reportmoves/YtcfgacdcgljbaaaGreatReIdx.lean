/- The walk of slices.IndexFunc at holdings, and of what ReportMoves hands to it. -/
import Derived.Test.YtcfgacdcgljbaaaGreatReAt
import Derived.Test.YtcfgacdcgljbaaaGreatBnN
import Derived.WalkSmall
namespace Go.Proofs.YtcfgacdcgljbaaaGreat
open Go.RowKit Go.Shelf
set_option maxHeartbeats 1000000 in
theorem idx_hold {B : Nat} (M : Stks) (l : List ByteArray) (ao : Option Addr) (cap : Nat) (w : World) (h : w.ownsRow B 44 3 (.slice ao l.length cap) l.length (l.flatMap (holdC M))) (hl : l.length ≤ 1000000) (f : Nat) (lb : Array Value) (p : ByteArray → Bool) (ef : ∀ args w, (callFunc f args).run Tryz.prog w = .ok (.enter f args) w)
    (hf : ∀ (e : ByteArray) (W : World), Below w.heap.size w W → Calls Tryz.prog f (#[.agg #[.string e, .int .i64 (sumQ (M e).ys), .int .i64 (sumV (M e).ys)]] ++ lb) W fun r w' => r = .returned (.bool (p e)) ∧ Below W.heap.size W w') :
    Calls Tryz.prog 12 #[.slice ao l.length cap, .func (.func f) #[] lb] w fun r w' => ∃ i : Int, r = .returned (.int .i64 i) ∧ Found p l i ∧ Below w.heap.size w w' := by
  have HF : Hid (∀ (e : ByteArray) (W : World), Below w.heap.size w W → Calls Tryz.prog f (#[.agg #[.string e, .int .i64 (sumQ (M e).ys), .int .i64 (sumV (M e).ys)]] ++ lb) W fun r w' => r = .returned (.bool (p e)) ∧ Below W.heap.size W w') := hf
  have HL : Hid (w.ownsRow B 44 3 (.slice ao l.length cap) l.length (l.flatMap (holdC M))) := h
  clear hf h
  go_enter Tryz.func12, Tryz.ntmps12
  go_wp2
  go_loopw [8] (fun i wr => ∃ k : Nat, k ≤ l.length ∧ i = .int .i64 k ∧ Hid (∀ j (hj : j < l.length), j < k → p l[j] = false) ∧ Below w.heap.size w wr) (fun i _ => l.length - (intOf i).toNat)
  case atStart => exact ⟨0, Nat.zero_le _, rfl, fun j _ hj => absurd hj (Nat.not_lt_zero _), Below.refl _ _⟩
  case round =>
    obtain ⟨k, hk, rfl, HN, hb⟩ := hrel
    by_cases hlt : k < l.length
    · rcases own_form HL.out with ⟨_, e2, _⟩ | ⟨g, cp, e1, _, hgl, _⟩
      · rw [e2] at hlt; exact absurd hlt (Nat.not_lt_zero _)
      simp only [Value.slice.injEq] at e1
      obtain ⟨rfl, _, rfl⟩ := e1
      obtain ⟨x, hx⟩ : ∃ x, x = l[k] := ⟨_, rfl⟩
      have hcw : ∀ j, j < 3 → wr.cell? ⟨g, k * 3 + j, none⟩ = (holdC M x)[j]? := fun j hj => by
        rw [hx]; exact (hb.cell (p := ⟨g, k * 3 + j, none⟩) hgl).trans (own_cell (m := 3) (fun _ => rfl) HL.out k j hlt hj).1
      have HY : Hid (l[k] = x) := hx.symm
      have hcall := HF.out x wr hb
      have q0 := hcw 0 (by omega)
      have q1 := hcw 1 (by omega)
      have q2 := hcw 2 (by omega)
      simp only [holdC, List.getElem?_cons_zero, List.getElem?_cons_succ, Nat.add_zero] at q0 q1 q2
      clear hcw hx
      generalize hpv : p x = pv at hcall
      have HPV : Hid (p l[k] = pv) := by rw [HY.out]; exact hpv
      clear hpv
      go_wp2_with fail
      refine hcall.mono ?_
      rintro e w1 ⟨rfl, hb1⟩
      have hb2 : Below w.heap.size w w1 := hb.trans (hb1.mono hb.size)
      clear hcall q0 q1 q2
      cases pv with
      | true =>
        go_wp2
        go_ret
        exact ⟨k, rfl, Or.inr ⟨k, hlt, rfl, HPV.out, HN.out⟩, hb2⟩
      | false =>
        go_wp2
        go_roundw
        case rel =>
          refine ⟨k + 1, by omega, by go_num, fun j hj hjk => ?_, hb2⟩
          rcases Nat.lt_or_eq_of_le (Nat.le_of_lt_succ hjk) with x | x
          · exact HN.out j hj x
          · subst x; exact HPV.out
        case measure => simp [intOf]; omega
    · obtain rfl : k = l.length := by omega
      go_wp2
      go_ret
      exact ⟨-1, rfl, Or.inl ⟨rfl, fun y hy => by
        obtain ⟨j, hj, rfl⟩ := List.getElem_of_mem hy
        exact HN.out j hj hj⟩, hb⟩
set_option maxHeartbeats 1000000 in
theorem mvIs_any (x : ByteArray) (q v : Int) (bs bi g cap n i : Nat) (y : ByteArray) (W : World) (hs : W.cell? ⟨bs, 0, none⟩ = some (.slice (some ⟨g, 0, none⟩) n cap)) (hi : W.cell? ⟨bi, 0, none⟩ = some (.int .i64 i)) (hy : W.cell? ⟨g, i, none⟩ = some (.string y)) (hin : i < n) :
    Calls Tryz.prog 13 (#[.agg #[.string x, .int .i64 q, .int .i64 v]] ++ #[.pointer (some ⟨bs, 0, none⟩), .pointer (some ⟨bi, 0, none⟩)]) W fun r w' => r = .returned (.bool (decide (x = y))) ∧ Below W.heap.size W w' := by
  have l1 : bs < W.heap.size := World.block_lt_of_cell? _ _ hs
  have l2 : bi < W.heap.size := World.block_lt_of_cell? _ _ hi
  have l3 : g < W.heap.size := World.block_lt_of_cell? _ _ hy
  have n1 : bs ≠ W.heap.size := by omega
  have n2 : bi ≠ W.heap.size := by omega
  have n3 : g ≠ W.heap.size := by omega
  go_enter Tryz.func13, Tryz.ntmps13
  obtain ⟨W1, hW1⟩ : ∃ w', w' = W.alloc (.cells #[.string x, .int .i64 q, .int .i64 v] 44) := ⟨_, rfl⟩
  have hb1 : Below W.heap.size W W1 := by rw [hW1]; exact (Below.refl _ _).alloc (Nat.le_refl _) _
  have s1 := (hb1.cell (p := ⟨bs, 0, none⟩) l1).trans hs
  have i1 := (hb1.cell (p := ⟨bi, 0, none⟩) l2).trans hi
  have y1 := (hb1.cell (p := ⟨g, i, none⟩) l3).trans hy
  have c0 : W1.cell? ⟨W.heap.size, 0, none⟩ = some (.string x) := by rw [hW1]; simp
  have hii : 0 ≤ (i : Int) ∧ (i : Int) < (n : Int) := by omega
  have mixed : Tryz.prog.follows .mixedOrders = true := by kernel_rfl
  have HW1 := hidE hW1
  clear hs hi hy hW1
  go_wp2_with fail
  rw [← HW1.out]
  go_quiet (fail)
  go_wp2
  go_ret
  refine ⟨?_, below_drewN hb1 _⟩
  have e : (x.toList == y.toList) = decide (x = y) := by
    rw [Bool.eq_iff_iff, beq_iff_eq, decide_eq_true_eq]
    refine ⟨fun h => ?_, fun h => by rw [h]⟩
    rw [ByteArray.toList_eq, ByteArray.toList_eq] at h
    exact ByteArray.ext (Array.ext' h)
  rw [← e]
  rfl
end Go.Proofs.YtcfgacdcgljbaaaGreat
