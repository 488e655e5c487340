/- The walks of cost.worth and cost.sum. -/
import Derived.Test.YtmldaiofghpfdaaCoMem
import Derived.Test.YtmldaiofghpfdaaMoneyShare
namespace Go.Proofs.Ytmldaiofghpfdaa
open Go.RowKit
set_option maxHeartbeats 1000000 in
theorem worth_any (y : Lay) (n : Int) (w : World) (h : LayOK y) (hv : y.val ≤ 4000000000000000000) (h0 : 0 ≤ n) (h1 : n ≤ y.qty) :
    Calls Try.prog 38 #[.agg #[.int .i64 y.id, .int .i64 y.qty, .int .i64 y.val], .int .i64 n] w fun e w' => e = .returned (.int .i64 (y.val * n / y.qty)) ∧ Below w.heap.size w w' := by
  obtain ⟨id, qty, val⟩ := y
  obtain ⟨q1, q2, v0⟩ := h
  simp only at hv h1 q1 q2 v0 ⊢
  have hm0 : 0 ≤ val % qty := Int.emod_nonneg val (by omega)
  have hm1 : val % qty < qty := Int.emod_lt_of_pos val (by omega)
  have HS : Hid (val / qty * n + val % qty * n / qty = val * n / qty) := part_split (by omega)
  have hp := part_le v0 h0 (by omega : 0 < qty) h1
  have hr := part_le hm0 h0 (by omega : 0 < qty) h1
  have hq0 : 0 ≤ val / qty := Int.ediv_nonneg v0 (by omega)
  have hqn : 0 ≤ val / qty * n := Int.mul_nonneg hq0 h0
  have hqs : val / qty * n ≤ 4000000000000000000 := by have := HS.out; omega
  have hall : val / qty * n + val % qty * n / qty ≤ 4000000000000000000 := by rw [HS.out]; omega
  have hc := fun W => part_ok (val % qty) n qty W hm0 (by omega) h0 h1 q1 q2
  unfold shr at hc
  generalize hR : val % qty * n / qty = R at hc hr HS hall
  clear hR
  generalize hM : val % qty = M at hc hm0 hm1
  have HM : Hid (val % qty = M) := hM
  obtain ⟨W0, hW0⟩ : ∃ W, W = w.alloc (.cells #[.int .i64 id, .int .i64 qty, .int .i64 val] 44) := ⟨_, rfl⟩
  have hB0 : Below w.heap.size w W0 := by rw [hW0]; exact (Below.refl _ _).alloc (Nat.le_refl _) _
  have c1 : ∀ k, (W0.drewN k).cell? ⟨w.heap.size, 1, none⟩ = some (.int .i64 qty) := fun k => by rw [hW0]; simp
  have c2 : ∀ k, (W0.drewN k).cell? ⟨w.heap.size, 2, none⟩ = some (.int .i64 val) := fun k => by rw [hW0]; simp
  have qne : ¬ qty = 0 := by omega
  go_enter Try.func38, Try.ntmps38
  go_wp2_with fail
  rw [← hW0]
  clear hW0
  go_quiet (first | (go_at_call 42; refine Calls.quiet_of (hc _)))
  go_wp2
  go_ret
  exact ⟨ret_int HS.out, hB0.trans ⟨rfl, rfl, rfl, Nat.le_refl _, fun _ _ => rfl⟩⟩
theorem sum_take {ys : List Lay} (h : ∀ y ∈ ys, LayOK y) (k : Nat) : 0 ≤ sumQ (ys.take k) ∧ sumQ (ys.take k) ≤ sumQ ys ∧ 0 ≤ sumV (ys.take k) ∧ sumV (ys.take k) ≤ sumV ys := by
  have h1 := sum_nonneg (ys := ys.take k) fun y hy => h y (List.mem_of_mem_take hy)
  have h2 := sum_nonneg (ys := ys.drop k) fun y hy => h y (List.mem_of_mem_drop hy)
  have h3 := sumQ_append (ys.take k) (ys.drop k)
  have h4 := sumV_append (ys.take k) (ys.drop k)
  rw [List.take_append_drop] at h3 h4
  omega
theorem sum_snoc (ys : List Lay) (k : Nat) (hk : k < ys.length) : sumQ (ys.take (k + 1)) = sumQ (ys.take k) + ys[k].qty ∧ sumV (ys.take (k + 1)) = sumV (ys.take k) + ys[k].val := by
  rw [List.take_succ_eq_append_getElem hk, sumQ_append, sumV_append]
  simp only [sumQ, sumV]
  omega
set_option maxHeartbeats 1000000 in
theorem sum_any (ys : List Lay) (v : Value) (w : World) (h : LayAt w v ys) (hok : ∀ y ∈ ys, LayOK y) (hq : sumQ ys ≤ 1000000000) (hv : sumV ys ≤ 4000000000000000000) (hl : ys.length ≤ 1000000) :
    Calls Try.prog 19 #[v] w fun e w' => e = .returned (.tuple #[.int .i64 (sumQ ys), .int .i64 (sumV ys)]) ∧ Below w.heap.size w w' := by
  rcases h.form with ⟨rfl, rfl⟩ | ⟨g, o, cap, rfl, hg, hc1, hc2⟩
  · go_enter Try.func19, Try.ntmps19
    go_wp2
    refine wp_loop_rounds 1 ?_
    rw [rounds_succ]
    go_wp2
    go_ret2
    exact ⟨rfl, Below.refl _ _⟩
  · go_enter Try.func19, Try.ntmps19
    go_wp2
    go_loopw [2, 3, 8] (fun q s i wr => ∃ k : Nat, k ≤ ys.length ∧ i = .int .i64 k ∧ q = .int .i64 (sumQ (ys.take k)) ∧ s = .int .i64 (sumV (ys.take k)) ∧ Below w.heap.size w wr) (fun _ _ i _ => ys.length - (intOf i).toNat)
    case atStart => exact ⟨0, Nat.zero_le _, rfl, rfl, rfl, Below.refl _ _⟩
    case round =>
      obtain ⟨k, hk, rfl, rfl, rfl, hb⟩ := hrel
      by_cases hlt : k < ys.length
      · have hc := fun j hj => ((h.below hb).cell k j hlt hj).1
        have c0 := hc 0 (by omega)
        have c1 := hc 1 (by omega)
        have c2 := hc 2 (by omega)
        have st := sum_take hok k
        have st1 := sum_take hok (k + 1)
        have sn := sum_snoc ys k hlt
        have SN : Hid (sumQ (ys.take (k + 1)) = sumQ (ys.take k) + ys[k].qty ∧ sumV (ys.take (k + 1)) = sumV (ys.take k) + ys[k].val) := sn
        have ok := hok ys[k] (List.getElem_mem hlt)
        rw [sn.1, sn.2] at st1
        clear sn hc
        generalize ys[k] = y at c0 c1 c2 st1 SN ok
        obtain ⟨id, qty, val⟩ := y
        unfold LayOK at ok
        simp only [layC, List.getElem?_cons_zero, List.getElem?_cons_succ, Nat.add_zero] at c0 c1 c2 st1 SN ok
        have HB := hb
        go_wp2
        go_roundw
        case rel => exact ⟨k + 1, by omega, by go_num, by rw [SN.out.1], by rw [SN.out.2], hb.alloc hb.size _⟩
        case measure => simp [intOf]; omega
      · obtain rfl : k = ys.length := by omega
        have e : ys.take ys.length = ys := List.take_length
        go_wp2
        go_ret2
        exact ⟨by rw [e]; rfl, hb⟩
end Go.Proofs.Ytmldaiofghpfdaa
