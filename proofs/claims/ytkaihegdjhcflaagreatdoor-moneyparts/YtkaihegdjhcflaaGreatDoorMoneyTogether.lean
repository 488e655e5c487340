/- The walk of money.together. -/
import Derived.Test.YtkaihegdjhcflaaGreatDoorMoneyShare
namespace Go.Proofs.YtkaihegdjhcflaaGreatDoor
open Go.RowKit
/-- A slice's address leads to these numbers. -/
def Row (w : World) (ao : Option Addr) (zs : List Int) : Prop :=
  zs = [] ∨ ∃ b off, ao = some ⟨b, off, none⟩ ∧ ∀ i, i < zs.length → w.cell? ⟨b, off + i, none⟩ = some (.int .i64 (zs.getD i 0))
theorem Row.below {w w' : World} {ao : Option Addr} {zs : List Int} (h : Row w ao zs) (hb : Below w.heap.size w w') : Row w' ao zs := by
  rcases h with rfl | ⟨b, off, rfl, h⟩
  · exact .inl rfl
  · refine .inr ⟨b, off, rfl, fun i hi => ?_⟩
    have hc := h i hi
    rw [hb.cell (p := ⟨b, off + i, none⟩) (World.block_lt_of_cell? _ _ hc)]
    exact hc
def okw (z : Int) : Bool := decide (0 ≤ z) && decide (z ≤ 100000)
def togB (zs : List Int) : Bool := zs.all okw && decide (1 ≤ zs.sum)
theorem okw_iff (z : Int) : okw z = true ↔ 0 ≤ z ∧ z ≤ 100000 := by simp [okw]
theorem okw_big {z : Int} (h : 100000 < z) : okw z = false := by simp [okw]; omega
theorem okw_neg {z : Int} (h : z < 0) : okw z = false := by simp [okw]; omega
theorem sum_bd : ∀ zs : List Int, zs.all okw = true → 0 ≤ zs.sum ∧ zs.sum ≤ 100000 * zs.length
  | [], _ => by simp
  | z :: zs, h => by
    simp only [List.all_cons, Bool.and_eq_true, okw_iff] at h
    have := sum_bd zs h.2
    simp only [List.sum_cons, List.length_cons]; omega
theorem take_step (zs : List Int) (k : Nat) (h : k < zs.length) : zs.take (k + 1) = zs.take k ++ [zs.getD k 0] := by
  rw [List.take_succ_eq_append_getElem h]; simp [List.getD, List.getElem?_eq_getElem h]
theorem all_step (zs : List Int) (k : Nat) (h : k < zs.length) : (zs.take (k + 1)).all okw = ((zs.take k).all okw && okw (zs.getD k 0)) := by
  rw [take_step zs k h]; simp
theorem sum_step (zs : List Int) (k : Nat) (h : k < zs.length) : (zs.take (k + 1)).sum = (zs.take k).sum + zs.getD k 0 := by
  rw [take_step zs k h]; simp
theorem all_take (zs : List Int) (k : Nat) (h : zs.all okw = true) : (zs.take k).all okw = true := by
  simp only [List.all_eq_true] at h ⊢; exact fun x hx => h x (List.mem_of_mem_take hx)
theorem bad_at (zs : List Int) (k : Nat) (h : k < zs.length) (hb : okw (zs.getD k 0) = false) : togB zs = false := by
  have : zs.all okw = false := by
    rw [List.all_eq_false]
    refine ⟨zs.getD k 0, ?_, by rw [hb]; decide⟩
    simp only [List.getD, List.getElem?_eq_getElem h, Option.getD_some]; exact List.getElem_mem h
  simp [togB, this]
set_option maxHeartbeats 1000000 in
theorem together_any (ao : Option Addr) (cap : Nat) (zs : List Int) (w : World) (hr : Row w ao zs) (hl : zs.length ≤ 1000) :
    Calls Tryz.prog 19 #[.slice ao zs.length cap] w fun e w' =>
      (togB zs = true ∧ e = .returned (.tuple #[.int .i64 zs.sum, .bool true]) ∨ togB zs = false ∧ e = .returned (.tuple #[.int .i64 0, .bool false])) ∧ w' = w := by
  go_enter Tryz.func19, Tryz.ntmps19
  go_wp2
  go_loop [4, 9] (fun s i => ∃ k : Nat, k ≤ zs.length ∧ i = .int .i64 k ∧ s = .int .i64 (zs.take k).sum ∧ (zs.take k).all okw = true) (fun _ i => zs.length - (intOf i).toNat)
  case atStart => exact ⟨0, Nat.zero_le _, rfl, by simp, by simp⟩
  case round =>
    obtain ⟨k, hk, rfl, rfl, hok⟩ := hrel
    have hb := sum_bd _ hok
    have hlen : (zs.take k).length ≤ 1000 := by have := List.length_take_le k zs; omega
    by_cases hlt : k < zs.length
    · obtain ⟨b, off, rfl, hcell⟩ : ∃ b off, ao = some ⟨b, off, none⟩ ∧ ∀ i, i < zs.length → w.cell? ⟨b, off + i, none⟩ = some (.int .i64 (zs.getD i 0)) := by
        rcases hr with rfl | h
        · simp at hlt
        · exact h
      have hc := hcell k hlt
      have HA : Hid ((zs.take (k + 1)).all okw = ((zs.take k).all okw && okw (zs.getD k 0))) := all_step zs k hlt
      have HS : Hid ((zs.take (k + 1)).sum = (zs.take k).sum + zs.getD k 0) := sum_step zs k hlt
      have HB : Hid (okw (zs.getD k 0) = false → togB zs = false) := bad_at zs k hlt
      have HO : Hid ((zs.take k).all okw = true) := hok
      generalize zs.getD k 0 = z at hc HA HS HB
      generalize (zs.take k).sum = S at hb HS
      clear hr hok hcell
      by_cases c1 : 0 ≤ z
      · by_cases c2 : z ≤ 100000
        · go_wp2
          go_round
          case rel => exact ⟨k + 1, by omega, by go_num, by rw [HS.out], by rw [HA.out, HO.out]; simp [okw, c1, c2]⟩
          case measure => simp [intOf]; omega
        · go_wp2
          go_ret2
          exact ⟨.inr ⟨HB.out (okw_big c2), rfl⟩, rfl⟩
      · go_wp2
        go_ret2
        exact ⟨.inr ⟨HB.out (okw_neg c1), rfl⟩, rfl⟩
    · have ht : zs.take k = zs := List.take_of_length_le (by omega)
      rw [ht] at hb hok ⊢
      have hle : zs.sum ≤ 100000000 := by omega
      clear ht hlen hr
      by_cases c1 : 1 ≤ zs.sum
      · have HT : Hid (togB zs = true) := by show togB zs = true; simp [togB, hok, c1]
        clear hok
        go_wp2
        go_ret2
        exact ⟨.inl ⟨HT.out, rfl⟩, rfl⟩
      · have HT : Hid (togB zs = false) := by show togB zs = false; simp [togB, c1]
        have hz : zs.sum = 0 := by omega
        clear hok
        go_wp2
        go_ret2
        exact ⟨.inr ⟨HT.out, rfl⟩, rfl⟩
end Go.Proofs.YtkaihegdjhcflaaGreatDoor
