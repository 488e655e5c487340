/- The walks of tallymanref.Spread and tallymanlaw.sameInts. -/
import Derived.Test.YtkaihegdjhcflaaGreatDoorRefDiv
import Derived.Test.YtkaihegdjhcflaaGreatDoorSpreadMath
namespace Go.Proofs.YtkaihegdjhcflaaGreatDoor
open Go.RowKit
theorem mulDiv_int (a b c : Int) (w : World) (hg : Glob w) (ha : 0 ≤ a) (ha' : a ≤ 20000000000000) (hb0 : 0 ≤ b) (hb : b ≤ c) (hc : 1 ≤ c) (hc' : c ≤ 100000000) :
    Calls Tryz.prog 15 #[.int .i64 a, .int .i64 b, .int .i64 c] w fun e w' => e = .returned (.int .i64 (shr a b c)) ∧ Below w.heap.size w w' := by
  obtain ⟨n, rfl⟩ : ∃ n : Nat, b = (n : Int) := ⟨b.toNat, by omega⟩
  exact mulDiv_any a c n w hg ha ha' hb hc hc'
theorem own_below {w w' : World} {base : Nat} {e : TypeId} {size : Nat} {v : Value} {n : Nat} {xs : List Value} (h : w.ownsRow base e size v n xs) (hb : Below w.heap.size w w') : w'.ownsRow base e size v n xs := by
  refine ⟨h.1, ?_⟩
  rcases h.2 with hn | ⟨g, cap, cur, rfl, h1, h2, h3⟩
  · exact .inl hn
  · exact .inr ⟨g, cap, cur, rfl, h1, by rw [hb.block g (Array.getElem?_eq_some_iff.1 h2).1]; exact h2, h3⟩
theorem own_ge {w : World} {base : Nat} {e : TypeId} {size : Nat} {v : Value} {n : Nat} {xs : List Value} (h : w.ownsRow base e size v n xs) : ∀ k, v.ownBlock = some k → base ≤ k := by
  intro k hk
  rcases h.2 with ⟨rfl, _⟩ | ⟨g, cap, cur, rfl, h1, _⟩
  · simp [Value.ownBlock] at hk
  · simp [Value.ownBlock] at hk; omega
theorem own_shape {w : World} {base : Nat} {e : TypeId} {size : Nat} {v : Value} {n : Nat} {xs : List Value} (h : w.ownsRow base e size v (n + 1) xs) : ∃ g cap, v = .slice (some ⟨g, 0, none⟩) (n + 1) cap := by
  rcases h.2 with ⟨_, h0⟩ | ⟨g, cap, cur, rfl, _⟩
  · omega
  · exact ⟨g, cap, rfl⟩
theorem one_cell (w : World) (x : Int) (t : TypeId) : ∀ (j : Nat) (u : Value), [Value.int .i64 x][j]? = some u → (w.alloc (.cells #[.int .i64 x] t)).cell? ((⟨w.heap.size, 0, none⟩ : Addr).add j) = some u := by
  intro j u hj
  match j, hj with
  | 0, hj => simp at hj; subst hj; simp [Addr.add]
  | j + 1, hj => simp at hj
theorem one_one (x : Int) : ∀ u ∈ [Value.int .i64 x], u.oneCell' = true := by
  intro u hu; simp at hu; subst hu; rfl
theorem last_cell {w : World} {base : Nat} {e : TypeId} {n g cap : Nat} {xs : List Value} {x : Value} (h : w.ownsRow base e 1 (.slice (some ⟨g, 0, none⟩) (n + 1) cap) (n + 1) (xs ++ [x])) (hx : xs.length = n) : w.cell? ⟨g, n, none⟩ = some x := by
  rw [h.cellAt n (by omega), List.getElem?_append_right (by omega), hx]; simp
theorem spr_take (t : Int) (zs : List Int) (k : Nat) (h : k < zs.length) : (spr t zs).take (k + 1) = (spr t zs).take k ++ [sprAt t zs k] := by
  rw [take_step _ _ (by rw [spr_length]; exact h), spr_getD t zs k h]
set_option maxHeartbeats 4000000 in
set_option maxRecDepth 20000 in
theorem refSpread_ok (t : Int) (ao : Option Addr) (cap : Nat) (zs : List Int) (w : World) (hgl : Glob w) (hr : Row w ao zs) (hl : zs.length ≤ 60) (h0 : 0 ≤ t) (h1 : t ≤ 1000000000000) (hg : togB zs = true) :
    Calls Tryz.prog 7 #[.int .i64 t, .slice ao zs.length cap] w fun e w' =>
      ∃ (g : Addr) (c : Nat), e = .returned (.tuple #[.slice (some g) zs.length c, .int .i64 0]) ∧ Row w' (some g) (spr t zs) ∧ Below w.heap.size w w' := by
  have hok := (togB_iff zs).mp hg
  have hS := sum_bd zs hok.1
  have hS1 : 1 ≤ zs.sum := hok.2
  have hS2 : zs.sum ≤ 100000000 := by omega
  have hp : 0 < zs.length := by
    rcases zs with _ | ⟨z, zs⟩
    · simp at hS1
    · simp
  obtain ⟨b, off, rfl, hcell⟩ : ∃ b off, ao = some ⟨b, off, none⟩ ∧ ∀ i, i < zs.length → w.cell? ⟨b, off + i, none⟩ = some (.int .i64 (zs.getD i 0)) := by
    rcases hr with rfl | h
    · simp at hS1
    · exact h
  have hbw : b < w.heap.size := World.block_lt_of_cell? _ _ (hcell 0 hp)
  have HC : Hid (∀ i, i < zs.length → w.cell? ⟨b, off + i, none⟩ = some (.int .i64 (zs.getD i 0))) := hcell
  have HO : Hid (zs.all okw = true) := hok.1
  have HG : Hid (Glob w) := hgl
  clear hr hcell hok hg hS hgl
  obtain ⟨i0, hi, hz0, hz1, hz2⟩ := info_parts Tryz.infoInt
  go_enter Tryz.func7, Tryz.ntmps7
  go_wp2
  go_loop [6, 16] (fun s i => ∃ k : Nat, k ≤ zs.length ∧ i = .int .i64 k ∧ s = .int .i64 (zs.take k).sum) (fun _ i => zs.length - (intOf i).toNat)
  case atStart => exact ⟨0, Nat.zero_le _, rfl, by simp⟩
  case round =>
    obtain ⟨k, hk, rfl, rfl⟩ := hrel
    by_cases hlt : k < zs.length
    · have hc := HC.out k hlt
      have HS : Hid ((zs.take k).sum + zs.getD k 0 = (zs.take (k + 1)).sum) := (sum_step zs k hlt).symm
      have b1 := sum_take_bd zs k HO.out
      have b2 := okw_at zs k hlt HO.out
      generalize zs.getD k 0 = z at hc HS b2
      go_wp2_with (go_at_call 14; refine (in_yes _ _ _ _ (by omega) (by omega)).mono ?_; rintro e w' ⟨rfl, hw⟩; subst w')
      go_round
      case rel => exact ⟨k + 1, by omega, by go_num, by rw [HS.out]⟩
      case measure => simp [intOf]; omega
    · have ht : zs.take k = zs := List.take_of_length_le (by omega)
      rw [ht]
      clear ht
      go_wp2_with (go_at_call 14; refine (in_yes _ _ _ _ (by omega) (by omega)).mono ?_; rintro e w' ⟨rfl, hw⟩; subst w')
      clear hk hlt
      go_loopw [9, 10, 11, 37] (fun v u s i wr => ∃ k : Nat, k ≤ zs.length ∧ i = .int .i64 k ∧ u = .int .i64 (zs.take k).sum ∧ s = .int .i64 (upTo t zs k) ∧ wr.ownsRow w.heap.size 3 1 v k (((spr t zs).take k).map (Value.int .i64)) ∧ Below w.heap.size w wr) (fun _ _ _ i _ => zs.length - (intOf i).toNat)
      case atStart => exact ⟨0, Nat.zero_le _, rfl, by simp, by rw [upTo_zero], World.ownsRow_nil _ _ _ _, Below.refl _ _⟩
      case round =>
        obtain ⟨k, hk, rfl, rfl, rfl, hown, hbel⟩ := hrel
        by_cases hlt : k < zs.length
        · have hc : wr.cell? ⟨b, off + k, none⟩ = some (.int .i64 (zs.getD k 0)) := by
            rw [hbel.cell (p := ⟨b, off + k, none⟩) hbw]; exact HC.out k hlt
          have HS : Hid ((zs.take k).sum + zs.getD k 0 = (zs.take (k + 1)).sum) := (sum_step zs k hlt).symm
          have b1 := sum_take_bd zs k HO.out
          have b2 := sum_take_bd zs (k + 1) HO.out
          have b3 := upTo_bd t zs k HO.out hS1 h0
          have b5 := upTo_bd t zs (k + 1) HO.out hS1 h0
          have HU : Hid (shr t ((zs.take k).sum + zs.getD k 0) zs.sum = upTo t zs (k + 1)) := by show _ = _; rw [HS.out]; rfl
          have HV : Hid (sprAt t zs k = upTo t zs (k + 1) - upTo t zs k) := rfl
          rw [← HS.out] at b2
          rw [← HU.out] at b5
          have HG2 : Hid (Glob wr) := HG.out.below hbel
          generalize zs.getD k 0 = z at hc HS b2 b5 HU
          go_wp2_with (first
            | (go_at_call 15; refine (mulDiv_int t _ _ _ HG2.out h0 (by omega) b2.1 b2.2 hS1 hS2).mono ?_; rintro e w1 ⟨rfl, hb1⟩; have hown1 := own_below hown hb1; have hbel1 := hbel.trans (hb1.mono hbel.size); clear hown hb1)
            | (at_builtin; refine wpList_append_own _ rfl _ _ 22 rfl w.heap.size 3 i0 (.int .i64 0) 1 8 Tryz.underlying22 hi hz0 hz1 hz2 rfl (by decide) _ _ _ rfl (hown1.alloc _) ⟨w1.heap.size, 0, none⟩ 1 1 [.int .i64 (shr t ((zs.take k).sum + z) zs.sum - upTo t zs k)] rfl rfl (one_cell _ _ _) (one_one _) (by unfold maxLen; omega) (by omega) (by have := hbel1.size; simp; omega) ?_; intro v' w2 hown2 hgrow _; obtain ⟨g, cp, rfl⟩ := own_shape hown2; have hlast := last_cell hown2 (by simp [spr_length]; omega)))
          have hbel2 : Below w.heap.size w w2 := (hbel1.alloc hbel1.size _).grown hgrow (Nat.le_trans hbel1.size (by simp)) (fun j hj => own_ge hown1 j hj)
          have hown3 : w2.ownsRow w.heap.size 3 1 (.slice (some ⟨g, 0, none⟩) (k + 1) cp) (k + 1) (((spr t zs).take (k + 1)).map (Value.int .i64)) := by
            rw [spr_take t zs k hlt, List.map_append, HV.out, ← HU.out]; exact hown2
          clear hgrow hown2 hown1
          go_roundw
          case rel => exact ⟨k + 1, by omega, by go_num, by rw [HS.out], by rw [← HU.out]; go_num, hown3, hbel2⟩
          case measure => simp [intOf]; omega
        · obtain rfl : k = zs.length := by omega
          have hall : (spr t zs).take zs.length = spr t zs := List.take_of_length_le (by rw [spr_length]; omega)
          rw [hall] at hown
          clear hall
          obtain ⟨g, cp, rfl⟩ : ∃ g cp, u9 = .slice (some ⟨g, 0, none⟩) zs.length cp := by
            rcases hown.2 with ⟨_, h⟩ | ⟨g, cp, cur, h, _⟩
            · omega
            · exact ⟨g, cp, h⟩
          go_wp2
          go_ret2
          refine ⟨⟨g, 0, none⟩, cp, rfl, .inr ⟨g, 0, rfl, fun i hi => ?_⟩, hbel⟩
          have := hown.cellAt i (by rw [spr_length] at hi; omega)
          rw [Nat.zero_add, this]
          simp [List.getD, List.getElem?_eq_getElem hi]
set_option maxHeartbeats 2000000 in
theorem refSpread_bad (t : Int) (ao : Option Addr) (cap : Nat) (zs : List Int) (w : World) (hr : Row w ao zs) (hl : zs.length ≤ 60) (hg : togB zs = false ∨ t < 0 ∨ 1000000000000 < t) :
    Calls Tryz.prog 7 #[.int .i64 t, .slice ao zs.length cap] w fun e w' => e = .returned (.tuple #[.slice none 0 0, .int .i64 1]) ∧ w' = w := by
  have HB : Hid (togB zs = false ∨ t < 0 ∨ 1000000000000 < t) := hg
  clear hg
  go_enter Tryz.func7, Tryz.ntmps7
  go_wp2
  go_loop [6, 16] (fun s i => ∃ k : Nat, k ≤ zs.length ∧ i = .int .i64 k ∧ s = .int .i64 (zs.take k).sum ∧ (zs.take k).all okw = true) (fun _ i => zs.length - (intOf i).toNat)
  case atStart => exact ⟨0, Nat.zero_le _, rfl, by simp, by simp⟩
  case round =>
    obtain ⟨k, hk, rfl, rfl, hok⟩ := hrel
    have hb := sum_bd _ hok
    have hlen : (zs.take k).length ≤ 60 := by have := List.length_take_le k zs; omega
    by_cases hlt : k < zs.length
    · obtain ⟨b, off, rfl, hcell⟩ : ∃ b off, ao = some ⟨b, off, none⟩ ∧ ∀ i, i < zs.length → w.cell? ⟨b, off + i, none⟩ = some (.int .i64 (zs.getD i 0)) := by
        rcases hr with rfl | h
        · simp at hlt
        · exact h
      have hc := hcell k hlt
      have HA : Hid ((zs.take (k + 1)).all okw = ((zs.take k).all okw && okw (zs.getD k 0))) := all_step zs k hlt
      have HS : Hid ((zs.take (k + 1)).sum = (zs.take k).sum + zs.getD k 0) := sum_step zs k hlt
      have HO : Hid ((zs.take k).all okw = true) := hok
      generalize zs.getD k 0 = z at hc HA HS
      generalize (zs.take k).sum = S at hb HS
      clear hr hok hcell
      by_cases c : 0 ≤ z ∧ z ≤ 100000
      · go_wp2_with (go_at_call 14; refine (in_yes _ _ _ _ (by omega) (by omega)).mono ?_; rintro e w' ⟨rfl, hw⟩; subst w')
        go_round
        case rel => exact ⟨k + 1, by omega, by go_num, by rw [HS.out], by rw [HA.out, HO.out, (okw_iff z).2 c]; rfl⟩
        case measure => simp [intOf]; omega
      · go_wp2_with (go_at_call 14; refine (in_no _ _ _ _ (by omega)).mono ?_; rintro e w' ⟨rfl, hw⟩; subst w')
        go_ret2
        exact ⟨rfl, rfl⟩
    · have ht : zs.take k = zs := List.take_of_length_le (by omega)
      rw [ht] at hb hok hlen ⊢
      clear ht hr
      have hcase : (t < 0 ∨ 1000000000000 < t) ∨ ((0 ≤ t ∧ t ≤ 1000000000000) ∧ zs.sum < 1) := by
        by_cases h1 : t < 0 ∨ 1000000000000 < t
        · exact .inl h1
        · refine .inr ⟨by omega, ?_⟩
          rcases HB.out with h | h
          · simp only [togB, hok, Bool.true_and, decide_eq_false_iff_not] at h; omega
          · omega
      clear HB hok
      rcases hcase with hx | ⟨hx, hy⟩
      · go_wp2_with (go_at_call 14; refine (in_no _ _ _ _ (by omega)).mono ?_; rintro e w' ⟨rfl, hw⟩; subst w')
        go_ret2
        exact ⟨rfl, rfl⟩
      · go_wp2_with (first
          | (go_at_call 14; refine (in_yes _ _ _ _ (by omega) (by omega)).mono ?_; rintro e w' ⟨rfl, hw⟩; subst w')
          | (go_at_call 14; refine (in_no _ _ _ _ (by omega)).mono ?_; rintro e w' ⟨rfl, hw⟩; subst w'))
        go_ret2
        exact ⟨rfl, rfl⟩
set_option maxHeartbeats 1000000 in
theorem sameInts_yes (ao bo : Option Addr) (c1 c2 : Nat) (zs : List Int) (w : World) (hr : Row w ao zs) (hr' : Row w bo zs) (hl : zs.length ≤ 60) :
    Calls Tryz.prog 9 #[.slice ao zs.length c1, .slice bo zs.length c2] w fun e w' => e = .returned (.bool true) ∧ ∃ n, w' = w.drewN n := by
  go_enter Tryz.func9, Tryz.ntmps9
  go_wp2
  go_loopw [5] (fun i wr => ∃ k : Nat, k ≤ zs.length ∧ i = .int .i64 k ∧ ∃ n, wr = w.drewN n) (fun i _ => zs.length - (intOf i).toNat)
  case atStart => exact ⟨0, Nat.zero_le _, rfl, 0, rfl⟩
  case round =>
    obtain ⟨k, hk, rfl, n, rfl⟩ := hrel
    by_cases hlt : k < zs.length
    · obtain ⟨b, off, rfl, hcell⟩ : ∃ b off, ao = some ⟨b, off, none⟩ ∧ ∀ i, i < zs.length → w.cell? ⟨b, off + i, none⟩ = some (.int .i64 (zs.getD i 0)) := by
        rcases hr with rfl | h
        · simp at hlt
        · exact h
      obtain ⟨b', off', rfl, hcell'⟩ : ∃ b off, bo = some ⟨b, off, none⟩ ∧ ∀ i, i < zs.length → w.cell? ⟨b, off + i, none⟩ = some (.int .i64 (zs.getD i 0)) := by
        rcases hr' with rfl | h
        · simp at hlt
        · exact h
      have hc := hcell k hlt
      have hc' := hcell' k hlt
      have hki : (k : Int) < (zs.length : Int) := by omega
      clear hr hr' hcell hcell'
      go_wp2
      go_quiet (fail)
      go_wp2
      go_roundw
      case rel => exact ⟨k + 1, by omega, by go_num, _, rfl⟩
      case measure => simp [intOf]; omega
    · clear hr hr'
      go_wp2
      go_ret
      exact ⟨rfl, _, rfl⟩
theorem sameInts_nil (w : World) :
    Calls Tryz.prog 9 #[.slice none 0 0, .slice none 0 0] w fun e w' => e = .returned (.bool true) ∧ ∃ n, w' = w.drewN n :=
  sameInts_yes none none 0 0 [] w (.inl rfl) (.inl rfl) (by simp)
end Go.Proofs.YtkaihegdjhcflaaGreatDoor
