/- The walk of money.Spread. -/
import Derived.Test.YtkaihegdjhcflaaMoneyTogether
import Derived.WalkSmall
namespace Go.Proofs.Ytkaihegdjhcflaa
open Go.RowKit
theorem Try.infoInt : (Try.prog.info? 3).map (fun i => (i.zero, i.size, i.bytes)) = some (some (.int .i64 0), 1, 8) := by kernel_rfl
/-- What goes with all weights up to k. -/
def upTo (t : Int) (zs : List Int) (k : Nat) : Int := shr t (zs.take k).sum zs.sum
/-- What the k-th gets. -/
def sprAt (t : Int) (zs : List Int) (k : Nat) : Int := upTo t zs (k + 1) - upTo t zs k
/-- What each gets. -/
def spr (t : Int) (zs : List Int) : List Int := (List.range zs.length).map (sprAt t zs)
theorem spr_length (t : Int) (zs : List Int) : (spr t zs).length = zs.length := by simp [spr]
theorem spr_getD (t : Int) (zs : List Int) (i : Nat) (h : i < zs.length) : (spr t zs).getD i 0 = sprAt t zs i := by
  simp [spr, List.getD, h]
def sprRow (t : Int) (zs : List Int) (k : Nat) : List Value := (List.range zs.length).map fun i => if i < k then .int .i64 (sprAt t zs i) else .int .i64 0
theorem sprRow_zero (t : Int) (zs : List Int) : sprRow t zs 0 = List.replicate zs.length (.int .i64 0) := by
  apply List.ext_getElem <;> simp [sprRow]
theorem sprRow_step (t : Int) (zs : List Int) (k : Nat) : (sprRow t zs k).set k (.int .i64 (sprAt t zs k)) = sprRow t zs (k + 1) := by
  apply List.ext_getElem
  · simp [sprRow]
  · intro i h1 h2
    simp only [sprRow, List.getElem_set, List.getElem_map, List.getElem_range]
    by_cases e : k = i
    · subst e; simp
    · rw [if_neg e]
      by_cases l : i < k
      · rw [if_pos l, if_pos (by omega)]
      · rw [if_neg l, if_neg (by omega)]
theorem sprRow_at (t : Int) (zs : List Int) (i : Nat) (h : i < zs.length) : (sprRow t zs zs.length)[i]? = some (.int .i64 ((spr t zs).getD i 0)) := by
  rw [spr_getD t zs i h]; simp [sprRow, h]
theorem sum_take_bd (zs : List Int) (k : Nat) (h : zs.all okw = true) : 0 ≤ (zs.take k).sum ∧ (zs.take k).sum ≤ zs.sum := by
  have h1 := sum_bd _ (all_take zs k h)
  have e : zs.sum = (zs.take k).sum + (zs.drop k).sum := by rw [← List.sum_append, List.take_append_drop]
  have h2 : (zs.drop k).all okw = true := by
    simp only [List.all_eq_true] at h ⊢; exact fun x hx => h x (List.mem_of_mem_drop hx)
  have := sum_bd _ h2
  omega
theorem togB_iff (zs : List Int) : togB zs = true ↔ zs.all okw = true ∧ 1 ≤ zs.sum := by simp [togB]
set_option maxHeartbeats 2000000 in
set_option maxRecDepth 20000 in
theorem spread_ok (t : Int) (ao : Option Addr) (cap : Nat) (zs : List Int) (w : World) (hr : Row w ao zs) (hl : zs.length ≤ 60) (h0 : 0 ≤ t) (h1 : t ≤ 1000000000000) (hg : togB zs = true) :
    Calls Try.prog 8 #[.int .i64 t, .slice ao zs.length cap] w fun e w' =>
      ∃ g : Addr, e = .returned (.tuple #[.slice (some g) zs.length zs.length, .nilIface]) ∧ Row w' (some g) (spr t zs) ∧ Below w.heap.size w w' := by
  have hok := (togB_iff zs).mp hg
  have hS := sum_bd zs hok.1
  have hS1 : 1 ≤ zs.sum := hok.2
  have hS2 : zs.sum ≤ 100000000 := by omega
  obtain ⟨b, off, rfl, hcell⟩ : ∃ b off, ao = some ⟨b, off, none⟩ ∧ ∀ i, i < zs.length → w.cell? ⟨b, off + i, none⟩ = some (.int .i64 (zs.getD i 0)) := by
    rcases hr with rfl | h
    · simp at hS1
    · exact h
  have HR : Hid (Row w (some ⟨b, off, none⟩) zs) := hr
  have HC : Hid (∀ i, i < zs.length → w.cell? ⟨b, off + i, none⟩ = some (.int .i64 (zs.getD i 0))) := hcell
  have HO : Hid (zs.all okw = true) := hok.1
  have HG : Hid (togB zs = true) := hg
  clear hr hcell hok hg hS
  obtain ⟨i0, hi, hz0, hz1, hz2⟩ := info_parts Try.infoInt
  go_enter Try.func8, Try.ntmps8
  go_wp2_with (first
    | (go_at_call 13; refine (together_any _ _ zs _ HR.out (by omega)).mono ?_; rintro e w' ⟨⟨_, rfl⟩ | ⟨h, _⟩, hw⟩; rotate_left; exact absurd h (by rw [HG.out]; decide); subst w')
    | (at_make; refine wpList_make_full _ rfl _ _ 22 rfl w.heap.size 3 i0 (.int .i64 0) 1 Try.underlying22 hi hz0 hz1 .i64 .i64 _ _ zs.length rfl rfl rfl rfl (by rw [hz2]; omega) (by unfold maxLen; omega) (Nat.le_refl _) ?_; intro w1 hown hgrow))
  have hbel : Below w.heap.size w w1 := (Below.refl _ _).grown hgrow (Nat.le_refl _) (by simp)
  have hown1 : w1.ownsRow w.heap.size 3 1 (.slice (some ⟨w.heap.size, 0, none⟩) zs.length zs.length) zs.length (sprRow t zs 0) := by
    have e : (madeCells (Value.int IntKind.i64 0).cells (zs.length * 1)).toList = sprRow t zs 0 := by
      show (madeCells #[_] _).toList = _
      rw [toList_madeCells_one, sprRow_zero]; simp
    rw [← e]; exact hown
  clear hown hgrow hi hz0 hz1 hz2
  have hbw : b < w.heap.size := by
    have hp : 0 < zs.length := by
      rcases zs with _ | ⟨z, zs⟩
      · simp at hS1
      · simp
    exact World.block_lt_of_cell? _ _ (HC.out 0 hp)
  go_loopw [9, 10, 35] (fun s u i wr => ∃ k : Nat, k ≤ zs.length ∧ i = .int .i64 k ∧ s = .int .i64 (zs.take k).sum ∧ u = .int .i64 (upTo t zs k) ∧ wr.ownsRow w.heap.size 3 1 (.slice (some ⟨w.heap.size, 0, none⟩) zs.length zs.length) zs.length (sprRow t zs k) ∧ Below w.heap.size w wr) (fun _ _ i _ => zs.length - (intOf i).toNat)
  case atStart => exact ⟨0, Nat.zero_le _, rfl, by simp, by simp [upTo, shr_none], hown1, hbel⟩
  case round =>
    clear hown1 hbel
    obtain ⟨k, hk, rfl, rfl, rfl, hown, hbel⟩ := hrel
    by_cases hlt : k < zs.length
    · have hc : wr.cell? ⟨b, off + k, none⟩ = some (.int .i64 (zs.getD k 0)) := by
        rw [hbel.cell (p := ⟨b, off + k, none⟩) hbw]; exact HC.out k hlt
      have HS : Hid ((zs.take k).sum + zs.getD k 0 = (zs.take (k + 1)).sum) := (sum_step zs k hlt).symm
      have b1 := sum_take_bd zs k HO.out
      have b2 := sum_take_bd zs (k + 1) HO.out
      have b3 := shr_nonneg t (zs.take k).sum zs.sum h0 b1.1 (by omega)
      have b4 := shr_le t (zs.take k).sum zs.sum h0 b1.2 (by omega)
      have b5 := shr_nonneg t (zs.take (k + 1)).sum zs.sum h0 b2.1 (by omega)
      have b6 := shr_le t (zs.take (k + 1)).sum zs.sum h0 b2.2 (by omega)
      rw [← HS.out] at b2 b5 b6
      have HU : Hid (upTo t zs (k + 1) = shr t ((zs.take k).sum + zs.getD k 0) zs.sum) := by show upTo t zs (k + 1) = _; rw [HS.out]; rfl
      have hu : upTo t zs k = shr t (zs.take k).sum zs.sum := rfl
      rw [← hu] at b3 b4
      clear hu
      have hcell : wr.cell? ⟨w.heap.size, k, none⟩ = some ((sprRow t zs k)[k]'(by simp [sprRow]; exact hlt)) := by
        rw [hown.cellAt _ (by omega)]; exact List.getElem?_eq_getElem _
      have hfz := hown.frozenAt k
      generalize zs.getD k 0 = z at hc HS b2 b5 b6 HU
      generalize (sprRow t zs k)[k]'(by simp [sprRow]; exact hlt) = old at hcell
      go_wp2_with (first
        | (go_at_call 14; refine (share_any t _ _ _ h0 (by omega) b2.1 b2.2 hS1 hS2).mono ?_; rintro e w' ⟨rfl, n, rfl⟩))
      go_roundw
      case rel =>
        have HV : sprAt t zs k = shr t ((zs.take k).sum + z) zs.sum - upTo t zs k := by unfold sprAt; rw [HU.out]
        have hst := ((show (wr.drewN n).ownsRow _ _ _ _ _ _ from hown).stored k (.int .i64 (sprAt t zs k))).1
        rw [sprRow_step, HV] at hst
        exact ⟨k + 1, by omega, by go_num, by rw [HS.out], by rw [HU.out], hst, (below_drewN hbel n).setCell (Nat.le_refl _) _⟩
      case measure => simp [intOf]; omega
    · obtain rfl : k = zs.length := by omega
      go_wp2
      go_ret2
      refine ⟨⟨w.heap.size, 0, none⟩, rfl, .inr ⟨w.heap.size, 0, rfl, fun i hi => ?_⟩, hbel⟩
      rw [spr_length] at hi
      have := hown.cellAt i (by omega)
      rw [Nat.zero_add, this]; exact sprRow_at t zs i hi
set_option maxHeartbeats 1000000 in
theorem spread_bad (t : Int) (ao : Option Addr) (cap : Nat) (zs : List Int) (w : World) (hr : Row w ao zs) (hl : zs.length ≤ 60) (hg : togB zs = false ∨ t < 0 ∨ 1000000000000 < t) :
    Calls Try.prog 8 #[.int .i64 t, .slice ao zs.length cap] w fun e w' => e = .returned (.tuple #[.slice none 0 0, .iface 40 (.int .i64 1)]) ∧ w' = w := by
  have HR : Hid (Row w ao zs) := hr
  clear hr
  by_cases h : togB zs = true
  · have HG : Hid (togB zs = true) := h
    rw [h] at hg
    clear h
    rcases hg with hg | hg | hg
    · exact absurd hg (by decide)
    all_goals
      go_enter Try.func8, Try.ntmps8
      go_wp2_with (go_at_call 13; refine (together_any _ _ zs _ HR.out (by omega)).mono ?_; rintro e w' ⟨⟨_, rfl⟩ | ⟨h, _⟩, hw⟩; rotate_left; exact absurd h (by rw [HG.out]; decide); subst w')
      go_ret2
      exact ⟨rfl, rfl⟩
  · have HG : Hid (togB zs = false) := by show togB zs = false; simpa using h
    clear h hg
    go_enter Try.func8, Try.ntmps8
    go_wp2_with (go_at_call 13; refine (together_any _ _ zs _ HR.out (by omega)).mono ?_; rintro e w' ⟨⟨h, _⟩ | ⟨_, rfl⟩, hw⟩; exact absurd h (by rw [HG.out]; decide); subst w')
    go_ret2
    exact ⟨rfl, rfl⟩
end Go.Proofs.Ytkaihegdjhcflaa
