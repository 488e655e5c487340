/- The walks of slices.IndexFunc and slices.ContainsFunc at events, and of tallymankeep.held. -/
import Derived.Test.YtmldaiofghpfdaaCoRun
namespace Go.Proofs.Ytmldaiofghpfdaa
open Go.RowKit Go.Shelf
set_option maxHeartbeats 1000000 in
theorem idx_ev (l : List Ev) (ao : Option Addr) (cap : Nat) (w : World) (h : EvsC w ao l) (hl : l.length ≤ 1000000) (f : Nat) (lb : Array Value) (p : Ev → Bool) (ef : ∀ args w, (callFunc f args).run Try.prog w = .ok (.enter f args) w)
    (hf : ∀ (e : Ev) (W : World), Below w.heap.size w W → Calls Try.prog f (#[evV e] ++ lb) W fun r w' => r = .returned (.bool (p e)) ∧ Below W.heap.size W w') :
    Calls Try.prog 20 #[.slice ao l.length cap, .func (.func f) #[] lb] w fun r w' => ∃ i : Int, r = .returned (.int .i64 i) ∧ Found p l i ∧ Below w.heap.size w w' := by
  have HF : Hid (∀ (e : Ev) (W : World), Below w.heap.size w W → Calls Try.prog f (#[evV e] ++ lb) W fun r w' => r = .returned (.bool (p e)) ∧ Below W.heap.size W w') := hf
  have HL : Hid (EvsC w ao l) := h
  clear hf h
  go_enter Try.func20, Try.ntmps20
  go_wp2
  go_loopw [8] (fun i wr => ∃ k : Nat, k ≤ l.length ∧ i = .int .i64 k ∧ Hid (∀ j (hj : j < l.length), j < k → p l[j] = false) ∧ Below w.heap.size w wr) (fun i _ => l.length - (intOf i).toNat)
  case atStart => exact ⟨0, Nat.zero_le _, rfl, fun j _ hj => absurd hj (Nat.not_lt_zero _), Below.refl _ _⟩
  case round =>
    obtain ⟨k, hk, rfl, HN, hb⟩ := hrel
    by_cases hlt : k < l.length
    · obtain ⟨g, o, hao, hg, hc⟩ := HL.out.below hb (by omega)
      subst hao
      obtain ⟨x, hx⟩ : ∃ x, x = l[k] := ⟨_, rfl⟩
      have hcw : ∀ j, j < 7 → wr.cell? ⟨g, o + k * 7 + j, none⟩ = (evC x)[j]? := fun j hj => by rw [hc k hlt j hj, hx]
      have HY : Hid (l[k] = x) := hx.symm
      have hcall := HF.out x wr hb
      unfold evV at hcall
      obtain ⟨id, item, kind, qty, price, ofI, day⟩ := x
      have q0 := hcw 0 (by omega)
      have q1 := hcw 1 (by omega)
      have q2 := hcw 2 (by omega)
      have q3 := hcw 3 (by omega)
      have q4 := hcw 4 (by omega)
      have q5 := hcw 5 (by omega)
      have q6 := hcw 6 (by omega)
      simp only [evC, List.getElem?_cons_zero, List.getElem?_cons_succ, Nat.add_zero] at q0 q1 q2 q3 q4 q5 q6
      simp only at hcall
      clear hcw hc hx
      generalize hpv : p ⟨id, item, kind, qty, price, ofI, day⟩ = pv at hcall
      have HPV : Hid (p l[k] = pv) := by rw [HY.out]; exact hpv
      clear hpv
      go_wp2_with fail
      refine hcall.mono ?_
      rintro e w1 ⟨rfl, hb1⟩
      have hb2 : Below w.heap.size w w1 := hb.trans (hb1.mono hb.size)
      clear hcall q0 q1 q2 q3 q4 q5 q6
      cases pv with
      | true =>
        go_wp2
        go_ret
        exact ⟨k, rfl, Or.inr ⟨k, hlt, rfl, HPV.out, HN.out⟩, hb2⟩
      | false =>
        go_wp2
        go_roundw
        case rel =>
          refine ⟨k + 1, by omega, by go_num, fun j hj hjk => ?_, hb2⟩
          rcases Nat.lt_or_eq_of_le (Nat.le_of_lt_succ hjk) with x | x
          · exact HN.out j hj x
          · subst x; exact HPV.out
        case measure => simp [intOf]; omega
    · obtain rfl : k = l.length := by omega
      go_wp2
      go_ret
      exact ⟨-1, rfl, Or.inl ⟨rfl, fun y hy => by
        obtain ⟨j, hj, rfl⟩ := List.getElem_of_mem hy
        exact HN.out j hj hj⟩, hb⟩
theorem Found.any {α : Type} {p : α → Bool} {l : List α} {r : Int} (h : Found p l r) : l.any p = decide (0 ≤ r) := by
  rcases h with ⟨rfl, h⟩ | ⟨k, hk, rfl, h, _⟩
  · rw [show decide ((0 : Int) ≤ -1) = false from rfl, List.any_eq_false]
    intro y hy
    rw [h y hy]; simp
  · rw [show decide ((0 : Int) ≤ (k : Int)) = true by simp, List.any_eq_true]
    exact ⟨_, List.getElem_mem hk, h⟩
set_option maxHeartbeats 1000000 in
theorem cont_ev (l : List Ev) (ao : Option Addr) (cap : Nat) (w : World) (h : EvsC w ao l) (hl : l.length ≤ 1000000) (f : Nat) (lb : Array Value) (p : Ev → Bool) (ef : ∀ args w, (callFunc f args).run Try.prog w = .ok (.enter f args) w)
    (hf : ∀ (e : Ev) (W : World), Below w.heap.size w W → Calls Try.prog f (#[evV e] ++ lb) W fun r w' => r = .returned (.bool (p e)) ∧ Below W.heap.size W w') :
    Calls Try.prog 10 #[.slice ao l.length cap, .func (.func f) #[] lb] w fun r w' => r = .returned (.bool (l.any p)) ∧ Below w.heap.size w w' := by
  have hix := idx_ev l ao cap w h hl f lb p ef hf
  clear hf
  go_enter Try.func10, Try.ntmps10
  go_wp2_with fail
  refine hix.mono ?_
  rintro e w1 ⟨i, rfl, hfd, hb⟩
  have ha := hfd.any
  have HA : Hid (l.any p = decide (0 ≤ i)) := ha
  clear ha hfd hix
  go_wp2
  go_ret
  exact ⟨by rw [HA.out]; rfl, hb⟩
theorem held1_any (e : Ev) (W : World) : Calls Try.prog 14 (#[evV e] ++ #[]) W fun r w' => r = .returned (.bool (decide (60 < e.item.size))) ∧ Below W.heap.size W w' := by
  obtain ⟨id, item, kind, qty, price, ofI, day⟩ := e
  unfold evV
  simp only
  have hB : ∀ o : Obj, Below W.heap.size W (W.alloc o) := fun o => (Below.refl _ _).alloc (Nat.le_refl _) o
  have HB : Hid _ := hB
  clear hB
  by_cases hd : 60 < item.size
  · have hz : (60 : Int) < (item.size : Int) := by omega
    have hd2 : decide (60 < item.size) = true := by simpa using hd
    go_enter Try.func14, Try.ntmps14
    go_wp2
    go_ret
    exact ⟨by rw [hd2]; rfl, HB.out _⟩
  · have hz : ¬ (60 : Int) < (item.size : Int) := by omega
    have hd2 : decide (60 < item.size) = false := by simpa using hd
    go_enter Try.func14, Try.ntmps14
    go_wp2
    go_ret
    exact ⟨rfl, HB.out _⟩
def heldB (l : List Ev) : Bool := decide (l.length ≤ 40) && !l.any fun e => decide (60 < e.item.size)
set_option maxHeartbeats 1000000 in
theorem held_any (l : List Ev) (ao : Option Addr) (cap : Nat) (w : World) (h : EvsC w ao l) (_hl : l.length ≤ maxLen) :
    Calls Try.prog 4 #[.slice ao l.length cap] w fun r w' => r = .returned (.bool (heldB l)) ∧ Below w.heap.size w w' := by
  by_cases h40 : l.length ≤ 40
  · have hz : (l.length : Int) ≤ 40 := by omega
    have hc := fun W (hb : Below w.heap.size w W) => cont_ev l ao cap W (h.below hb) (by omega) 14 #[] (fun e => decide (60 < e.item.size)) (enters_of Try.func14 (by kernel_rfl) rfl) (fun e W' _ => held1_any e W')
    have HB : Hid (heldB l = !l.any fun e => decide (60 < e.item.size)) := by show _ = _; unfold heldB; simp [h40]
    go_enter Try.func4, Try.ntmps4
    go_wp2_with fail
    refine (hc w (Below.refl _ _)).mono ?_
    rintro e w1 ⟨rfl, hb⟩
    generalize (l.any fun e => decide (60 < e.item.size)) = bb at HB ⊢
    go_wp2
    go_ret
    exact ⟨by rw [HB.out]; rfl, hb⟩
  · have hz : ¬ (l.length : Int) ≤ 40 := by omega
    have HB : Hid (heldB l = false) := by show _ = _; unfold heldB; simp [h40]
    go_enter Try.func4, Try.ntmps4
    go_wp2
    go_ret
    exact ⟨by rw [HB.out]; rfl, Below.refl _ _⟩
end Go.Proofs.Ytmldaiofghpfdaa
