/- sort.stable_func, over whatever less and swap. -/
import Derived.Test.YtcfgacdcgljbaaaGreatDoorStSym
namespace Go.Proofs.YtcfgacdcgljbaaaGreatDoor
open Go.RowKit
open Go.Sort hiding Below
open Go.Shelf
variable {α : Type} [Inhabited α]
section
variable {lt : α → α → Bool}
variable {g : Nat} {lb : Array Value} {sf : Nat} {sb : Array Value} {blk N : Nat} {St : World → Array α → Prop}
set_option maxRecDepth 20000 in
set_option maxHeartbeats 8000000 in
theorem stable_any (S : Sorts lt g lb sf sb blk N St) (hO : SWO lt) (hN : N ≤ 1000000) (d : Array α) (w : World) (h : St w d) :
    Calls Tryz.prog 143 #[dV g lb sf sb, .int .i64 N] w (Merges lt St blk 0 N d w) := by
  have hbl := S.blt w d h
  have hsz := S.size w d h
  have hins := fun W e (x y : Nat) (hs : St W e) (hx : x ≤ y) (hy : y ≤ N) => insertion_any S hO e W hs x y hx hy hN
  have hsym := fun W e (x y z : Nat) (hs : St W e) (hx : x < y) (hy : y < z) (hz : z ≤ N) (s1 : SortedIn lt x y e) (s2 : SortedIn lt y z e) => sym_any S hO hN (z - x) x y z rfl hx hy hz e W hs s1 s2
  unfold dV at hins hsym ⊢
  obtain ⟨W0, hW0⟩ : ∃ W, W = w.alloc (.cells #[.func (.func g) #[] lb, .func (.func sf) #[] sb] 235) := ⟨_, rfl⟩
  have hB0 : Below w.heap.size w W0 := by rw [hW0]; exact (Below.refl _ _).alloc (Nat.le_refl _) _
  have c0 : W0.cell? ⟨w.heap.size, 0, none⟩ = some (.func (.func g) #[] lb) := by rw [hW0]; simp
  have c1 : W0.cell? ⟨w.heap.size, 1, none⟩ = some (.func (.func sf) #[] sb) := by rw [hW0]; simp
  have HS0 : Hid (St W0 d) := S.below _ _ _ h hB0
  have HW0 : Hid (W0 = _) := hW0
  have HI : Hid _ := hins
  have HM : Hid _ := hsym
  clear hW0 hins hsym
  go_enter Tryz.func143, Tryz.ntmps143
  go_wp2
  rw [← HW0.out]
  go_loopw [5, 6] (fun i j wr => ∃ (a : Nat) (e : Array α), a ≤ N ∧ i = .int .i64 a ∧ j = .int .i64 (a + 20 : Nat) ∧ Hid (St wr e) ∧ Hid (Fst lt a e) ∧ Hid (PermIn 0 N d e) ∧ Hid (W0.grownBy wr (some blk))) (fun i j _ => 1000001 - (intOf i).toNat)
  case atStart => exact ⟨0, d, Nat.zero_le _, rfl, rfl, HS0, fst_start d, permIn_refl _ _ _, grown_refl _ _⟩
  case round =>
    obtain ⟨a, e, ha, rfl, rfl, HS, HF, HP, HG⟩ := hrel
    have cw0 : wr.cell? ⟨w.heap.size, 0, none⟩ = some (.func (.func g) #[] lb) := grown_cell HG.out (by omega) c0
    have cw1 : wr.cell? ⟨w.heap.size, 1, none⟩ = some (.func (.func sf) #[] sb) := grown_cell HG.out (by omega) c1
    have hes := S.size wr e HS.out
    by_cases hb : a + 20 ≤ N
    · have z1 : (a : Int) + 20 ≤ (N : Int) := by omega
      have hc := HI.out wr e a (a + 20) HS.out (by omega) hb
      rw [show ((a + 20 : Nat) : Int) = (a : Int) + 20 from rfl] at hc
      go_wp2_with fail
      refine hc.mono ?_
      rintro e3 w2 ⟨rfl, d2, hs2, hw2, hp2, hg2⟩
      have HS2 : Hid (St w2 d2) := hs2
      have HF2 : Hid (Fst lt (a + 20) d2) := fst_step HF.out hw2 hp2
      have HP2 : Hid (PermIn 0 N d d2) := permIn_trans _ _ _ _ _ HP.out (permIn_mono _ _ _ _ _ _ (by omega) (by omega) (by omega) hp2)
      have HG2 : Hid (W0.grownBy w2 (some blk)) := grown_then HG.out hg2
      clear hs2 hw2 hp2 hg2 hc
      go_wp2
      go_roundw
      case rel => exact ⟨a + 20, d2, hb, by go_num, by go_num, HS2, HF2, HP2, HG2⟩
      case measure => simp [intOf]; omega
    · have z1 : ¬ (a : Int) + 20 ≤ (N : Int) := by omega
      have hc := HI.out wr e a N HS.out ha (Nat.le_refl _)
      go_wp2_with fail
      refine hc.mono ?_
      rintro e3 w2 ⟨rfl, d2, hs2, hw2, hp2, hg2⟩
      have HS2 : Hid (St w2 d2) := hs2
      have HF2 : Hid (Blk lt 20 N d2) := fst_end HF.out ha (by omega) hw2 hp2
      have HP2 : Hid (PermIn 0 N d d2) := permIn_trans _ _ _ _ _ HP.out (permIn_mono _ _ _ _ _ _ (by omega) (by omega) (by omega) hp2)
      have HG2 : Hid (W0.grownBy w2 (some blk)) := grown_then HG.out hg2
      clear hs2 hw2 hp2 hg2 hc cw0 cw1
      go_wp2
      go_loopw [4, 5, 6, 7] (fun i4 i5 i6 i7 wr => ∃ (B : Nat) (e : Array α), 0 < B ∧ B ≤ 2000000 ∧ i4 = .int .i64 B ∧ Hid (St wr e) ∧ Hid (Blk lt B N e) ∧ Hid (PermIn 0 N d e) ∧ Hid (W0.grownBy wr (some blk))) (fun i _ _ _ _ => 2000001 - (intOf i).toNat)
      case atStart => exact ⟨20, d2, by omega, by omega, rfl, HS2, HF2, HP2, HG2⟩
      case round =>
        clear HS2 HF2 HP2 HG2 HS HF HP HG hes
        obtain ⟨B, e2, hB, hB2, rfl, HS, HF, HP, HG⟩ := hrel
        by_cases hb3 : B < N
        · have z2 : (B : Int) < (N : Int) := by omega
          obtain ⟨W1, rfl⟩ : ∃ x, x = wr := ⟨_, rfl⟩
          have e2B : Hid ((2 : Int) * (B : Int) = ((2 * B : Nat) : Int)) := (by omega : (2 : Int) * (B : Int) = ((2 * B : Nat) : Int))
          go_wp2
          go_loopw [5, 6] (fun i j wr => ∃ (a : Nat) (e : Array α), a ≤ N ∧ i = .int .i64 a ∧ j = .int .i64 ((a : Int) + 2 * (B : Int)) ∧ Hid (St wr e) ∧ Hid (Mrg lt B N a e) ∧ Hid (PermIn 0 N d e) ∧ Hid (W0.grownBy wr (some blk))) (fun i j _ => 1000001 - (intOf i).toNat)
          case atStart => exact ⟨0, e2, Nat.zero_le _, rfl, by congr 1 <;> omega, HS, mrg_start hB HF.out, HP, HG⟩
          case round =>
            clear HS HF HP HG
            obtain ⟨a, e3, ha, rfl, rfl, HS, HF, HP, HG⟩ := hrel
            have cw0 : wr.cell? ⟨w.heap.size, 0, none⟩ = some (.func (.func g) #[] lb) := grown_cell HG.out (by omega) c0
            have cw1 : wr.cell? ⟨w.heap.size, 1, none⟩ = some (.func (.func sf) #[] sb) := grown_cell HG.out (by omega) c1
            have hes := S.size wr e3 HS.out
            have HH : Hid _ := mrg_here HF.out
            by_cases hb4 : a + 2 * B ≤ N
            · have z3 : (a : Int) + 2 * (B : Int) ≤ (N : Int) := by omega
              have hh := HH.out
              rw [Nat.min_eq_left (by omega), Nat.min_eq_left (by omega)] at hh
              have hc := HM.out wr e3 a (a + B) (a + 2 * B) HS.out (by omega) (by omega) hb4 hh.1 hh.2
              rw [show ((a + B : Nat) : Int) = (a : Int) + B by omega, show ((a + 2 * B : Nat) : Int) = (a : Int) + 2 * (B : Int) by omega] at hc
              clear hh
              go_wp2_with fail
              refine hc.mono ?_
              rintro e4 w2 ⟨rfl, d2, hs2, hw2, hp2, hg2⟩
              have HS2 : Hid (St w2 d2) := hs2
              have HF2 : Hid (Mrg lt B N (a + 2 * B) d2) := mrg_step HF.out hw2 hp2
              have HP2 : Hid (PermIn 0 N d d2) := permIn_trans _ _ _ _ _ HP.out (permIn_mono _ _ _ _ _ _ (by omega) (by omega) (by omega) hp2)
              have HG2 : Hid (W0.grownBy w2 (some blk)) := grown_then HG.out hg2
              clear hs2 hw2 hp2 hg2 hc
              go_wp2
              go_roundw
              case rel => exact ⟨a + 2 * B, d2, hb4, by congr 1 <;> omega, by congr 1 <;> omega, HS2, HF2, HP2, HG2⟩
              case measure => simp [intOf]; omega
            · have z3 : ¬ (a : Int) + 2 * (B : Int) ≤ (N : Int) := by omega
              by_cases hm : a + B < N
              · have z4 : (a : Int) + (B : Int) < (N : Int) := by omega
                have hh := HH.out
                rw [Nat.min_eq_left (by omega), Nat.min_eq_right (by omega)] at hh
                have hc := HM.out wr e3 a (a + B) N HS.out (by omega) hm (Nat.le_refl _) hh.1 hh.2
                rw [show ((a + B : Nat) : Int) = (a : Int) + B by omega] at hc
                clear hh
                go_wp2_with fail
                refine hc.mono ?_
                rintro e4 w2 ⟨rfl, d2, hs2, hw2, hp2, hg2⟩
                have HS2 : Hid (St w2 d2) := hs2
                have HF2 : Hid (Blk lt (2 * B) N d2) := mrg_end HF.out ha (by omega) hw2 hp2
                have HP2 : Hid (PermIn 0 N d d2) := permIn_trans _ _ _ _ _ HP.out (permIn_mono _ _ _ _ _ _ (by omega) (by omega) (by omega) hp2)
                have HG2 : Hid (W0.grownBy w2 (some blk)) := grown_then HG.out hg2
                clear hs2 hw2 hp2 hg2 hc
                go_wp2
                go_roundw
                case rel => exact ⟨2 * B, d2, by omega, by omega, by congr 1 <;> omega, HS2, HF2, HP2, HG2⟩
                case measure => simp [intOf]; omega
              · have z4 : ¬ (a : Int) + (B : Int) < (N : Int) := by omega
                have HF2 : Hid (Blk lt (2 * B) N e3) := by
                  have hh := HH.out.1
                  rw [Nat.min_eq_right (by omega)] at hh
                  exact mrg_end HF.out ha (by omega) hh (permIn_refl _ _ _)
                go_wp2
                go_roundw
                case rel => exact ⟨2 * B, e3, by omega, by omega, by congr 1 <;> omega, HS, HF2, HP, HG⟩
                case measure => simp [intOf]; omega
        · have z2 : ¬ (B : Int) < (N : Int) := by omega
          have hfin : SortedIn lt 0 N e2 := by
            have := HF.out 0 0 (by omega)
            rwa [Nat.min_eq_right (by omega)] at this
          have HFIN : Hid (SortedIn lt 0 N e2) := hfin
          clear hfin
          go_wp2
          go_end0
          exact ⟨rfl, e2, HS.out, HFIN.out, HP.out, grown_then (grown_below hB0) HG.out⟩
end
end Go.Proofs.YtcfgacdcgljbaaaGreatDoor
