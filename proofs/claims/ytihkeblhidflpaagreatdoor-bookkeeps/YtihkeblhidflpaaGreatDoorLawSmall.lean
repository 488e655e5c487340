/- The walks of tallymanlaw.short and sameEvents. -/
import Derived.Test.YtihkeblhidflpaaGreatDoorLawActs
import Derived.Test.YtihkeblhidflpaaGreatDoorActsOpen
namespace Go.Proofs.YtihkeblhidflpaaGreatDoor
open Go.RowKit
/-- It tells a Bool: true only where there are at most n. -/
def AtMost (n : Nat) (l : List Ac) (e : Ending) : Prop := ∃ bb : Bool, e = .returned (.bool bb) ∧ (bb = true → l.length ≤ n)
set_option maxRecDepth 20000 in
set_option maxHeartbeats 2000000 in
theorem short_any (l : List Ac) (ao : Option Addr) (cap : Nat) (w : World) (h : ActsAt w ao l) (hm : l.length ≤ maxLen) :
    Calls Tryz.prog 4 #[.slice ao l.length cap] w fun e w' => AtMost 140 l e ∧ w' = w := by
  unfold maxLen at hm
  by_cases h140 : l.length ≤ 140
  · have hnn : ¬ (140 : Int) < (l.length : Int) := by omega
    go_enter Tryz.func4, Tryz.ntmps4
    go_wp2
    go_loop [3] (fun i => ∃ k : Nat, k ≤ l.length ∧ i = .int .i64 k) (fun i => l.length - (intOf i).toNat)
    case atStart => exact ⟨0, Nat.zero_le _, rfl⟩
    case round =>
      obtain ⟨k, hk, rfl⟩ := hrel
      by_cases hlt : k < l.length
      · obtain ⟨b, off, rfl, hb, hc⟩ := h.2 (by omega)
        have hcx := hc k hlt 3 (by decide)
        simp only [acC, List.getElem?_cons_zero, List.getElem?_cons_succ] at hcx
        have hs : l[k].e.item.size ≤ maxLen := (h.1 _ (List.getElem_mem hlt)).item
        generalize l[k].e.item = s at hcx hs
        unfold maxLen at hs
        have hkz : (k : Int) < (l.length : Int) := by omega
        clear hc h
        by_cases h60 : 60 < s.size
        · go_wp2
          go_ret
          exact ⟨⟨false, rfl, fun h => (by cases h)⟩, rfl⟩
        · go_wp2
          go_round
          case rel => exact ⟨k + 1, by omega, by go_num⟩
          case measure => simp [intOf]; omega
      · go_wp2
        go_ret
        exact ⟨⟨true, rfl, fun _ => h140⟩, rfl⟩
  · have hnn : (140 : Int) < (l.length : Int) := by omega
    go_enter Tryz.func4, Tryz.ntmps4
    go_wp2
    go_ret
    exact ⟨⟨false, rfl, fun h => (by cases h)⟩, rfl⟩
set_option maxRecDepth 20000 in
set_option maxHeartbeats 4000000 in
theorem same_any {B1 B2 : Nat} {va vb : Value} {l : List Ev} {w : World} (h1 : w.ownsRow B1 35 7 va l.length (l.flatMap evC)) (h2 : w.ownsRow B2 35 7 vb l.length (l.flatMap evC)) (hl : l.length ≤ 1000000) :
    Calls Tryz.prog 9 #[va, vb] w fun e w' => e = .returned (.bool true) ∧ Below w.heap.size w w' := by
  by_cases h0 : l.length = 0
  · obtain ⟨a1, c1, rfl⟩ := own_len h1
    obtain ⟨a2, c2, rfl⟩ := own_len h2
    rw [h0]
    clear h1 h2
    go_enter Tryz.func9, Tryz.ntmps9
    go_wp2
    refine wp_loop_rounds 1 ?_
    rw [rounds_succ]
    go_wp2
    go_ret
    exact ⟨rfl, Below.refl _ _⟩
  · obtain ⟨g1, c1, e1, hg1⟩ : ∃ g cap, va = .slice (some ⟨g, 0, none⟩) l.length cap ∧ g < w.heap.size := by
      rcases own_form h1 with ⟨_, hn, _⟩ | ⟨g, cap, e, _, hg, _⟩
      · exact absurd hn h0
      · exact ⟨g, cap, e, hg⟩
    obtain ⟨g2, c2, e2, hg2⟩ : ∃ g cap, vb = .slice (some ⟨g, 0, none⟩) l.length cap ∧ g < w.heap.size := by
      rcases own_form h2 with ⟨_, hn, _⟩ | ⟨g, cap, e, _, hg, _⟩
      · exact absurd hn h0
      · exact ⟨g, cap, e, hg⟩
    subst e1 e2
    have H1 : Hid (w.ownsRow _ _ _ _ _ _) := h1
    have H2 : Hid (w.ownsRow _ _ _ _ _ _) := h2
    clear h1 h2 h0
    go_enter Tryz.func9, Tryz.ntmps9
    go_wp2
    go_loopw [5] (fun i wr => ∃ k : Nat, k ≤ l.length ∧ i = .int .i64 k ∧ Hid (Below w.heap.size w wr)) (fun i _ => l.length - (intOf i).toNat)
    case atStart => exact ⟨0, Nat.zero_le _, rfl, Below.refl _ _⟩
    case round =>
      obtain ⟨k, hk, rfl, HB⟩ := hrel
      by_cases hlt : k < l.length
      · obtain ⟨x, hx⟩ : ∃ x, x = l[k] := ⟨_, rfl⟩
        have hp : ∀ j, j < 7 → wr.cell? ⟨g1, k * 7 + j, none⟩ = (evC x)[j]? := fun j hj => by
          rw [HB.out.cell (p := ⟨g1, k * 7 + j, none⟩) hg1, (own_cell evC_len H1.out k j hlt hj).1, hx]
        have hq : ∀ j, j < 7 → wr.cell? ⟨g2, k * 7 + j, none⟩ = (evC x)[j]? := fun j hj => by
          rw [HB.out.cell (p := ⟨g2, k * 7 + j, none⟩) hg2, (own_cell evC_len H2.out k j hlt hj).1, hx]
        clear hx
        obtain ⟨id2, item, kind, qty, price, ofI, day⟩ := x
        have p0 := hp 0 (by omega)
        have p1 := hp 1 (by omega)
        have p2 := hp 2 (by omega)
        have p3 := hp 3 (by omega)
        have p4 := hp 4 (by omega)
        have p5 := hp 5 (by omega)
        have p6 := hp 6 (by omega)
        have q0 := hq 0 (by omega)
        have q1 := hq 1 (by omega)
        have q2 := hq 2 (by omega)
        have q3 := hq 3 (by omega)
        have q4 := hq 4 (by omega)
        have q5 := hq 5 (by omega)
        have q6 := hq 6 (by omega)
        simp only [evC, List.getElem?_cons_zero, List.getElem?_cons_succ, Nat.add_zero] at p0 p1 p2 p3 p4 p5 p6 q0 q1 q2 q3 q4 q5 q6
        clear hp hq
        have hkz : (k : Int) < (l.length : Int) := by omega
        go_wp2
        go_quiet (fail)
        have HB2 : Hid (Below w.heap.size w (wr.drewN nq)) := HB.out.trans ⟨rfl, rfl, rfl, Nat.le_refl _, fun _ _ => rfl⟩
        clear p0 p1 p2 p3 p4 p5 p6 q0 q1 q2 q3 q4 q5 q6
        go_wp2
        go_roundw
        case rel => exact ⟨k + 1, by omega, by go_num, HB2⟩
        case measure => simp [intOf]; omega
      · have hkz : ¬ (k : Int) < (l.length : Int) := by omega
        go_wp2
        go_ret
        exact ⟨rfl, HB.out⟩
end Go.Proofs.YtihkeblhidflpaaGreatDoor
