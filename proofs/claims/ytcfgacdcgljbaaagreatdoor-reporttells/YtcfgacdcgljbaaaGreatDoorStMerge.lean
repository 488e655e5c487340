/- sort.symMerge_func, over whatever less and swap. -/
import Derived.Test.YtcfgacdcgljbaaaGreatDoorStWalk
namespace Go.Proofs.YtcfgacdcgljbaaaGreatDoor
open Go.RowKit
open Go.Sort hiding Below
open Go.Shelf
variable {α : Type} [Inhabited α]
section
variable {lt : α → α → Bool}
variable {g : Nat} {lb : Array Value} {sf : Nat} {sb : Array Value} {blk N : Nat} {St : World → Array α → Prop}
set_option maxRecDepth 20000 in
set_option maxHeartbeats 4000000 in
theorem merge_one_right (S : Sorts lt g lb sf sb blk N St) (hO : SWO lt) (d : Array α) (w : World) (h : St w d) (a m b : Nat) (hm : m = a + 1) (h2 : m < b) (h3 : b ≤ N) (hN : N ≤ 1000000) (hs2 : SortedIn lt (a + 1) b d) :
    Calls Tryz.prog 200 #[dV g lb sf sb, .int .i64 a, .int .i64 m, .int .i64 b] w fun e w' => e = .returned (.tuple #[]) ∧ ∃ d', St w' d' ∧ SortedIn lt a b d' ∧ PermIn a b d d' ∧ w.grownBy w' (some blk) := by
  have hbl := S.blt w d h
  have hsz := S.size w d h
  unfold dV
  obtain ⟨W0, hW0⟩ : ∃ W, W = w.alloc (.cells #[.func (.func g) #[] lb, .func (.func sf) #[] sb] 235) := ⟨_, rfl⟩
  have hB0 : Below w.heap.size w W0 := by rw [hW0]; exact (Below.refl _ _).alloc (Nat.le_refl _) _
  have c0 : W0.cell? ⟨w.heap.size, 0, none⟩ = some (.func (.func g) #[] lb) := by rw [hW0]; simp
  have c1 : W0.cell? ⟨w.heap.size, 1, none⟩ = some (.func (.func sf) #[] sb) := by rw [hW0]; simp
  have HS0 : Hid (St W0 d) := S.below _ _ _ h hB0
  have HW0 : Hid (W0 = _) := hW0
  have HS2 : Hid (SortedIn lt (a + 1) b d) := hs2
  have eg := S.eg
  clear hW0 hs2
  go_enter Tryz.func200, Tryz.ntmps200
  have z0 : (m : Int) - (a : Int) = 1 := by omega
  have HM : Hid (m = a + 1) := hm
  clear hm
  go_wp2
  rw [← HW0.out]
  go_loopw [8, 9] (fun i j wr => ∃ (p q : Nat), a + 1 ≤ p ∧ p ≤ q ∧ q ≤ b ∧ i = .int .i64 p ∧ j = .int .i64 q ∧ Hid (a + 1 < p → lt d[p - 1]! d[a]! = true) ∧ Hid (q < b → lt d[q]! d[a]! = false) ∧ Hid (St wr d) ∧ Hid (W0.grownBy wr (some blk))) (fun i j _ => (intOf j).toNat - (intOf i).toNat)
  case atStart => exact ⟨m, b, by omega, by omega, Nat.le_refl _, rfl, rfl, fun h => absurd h (by omega), fun h => absurd h (Nat.lt_irrefl _), HS0, grown_refl _ _⟩
-- h => absurd h (Nat.lt_irrefl _), fun h => absurd h (Nat.lt_irrefl _), HS0, grown_refl _ _⟩
  case round =>
    obtain ⟨p, q, hp, hpq, hqb, rfl, rfl, K1, K2, HS, HG⟩ := hrel
    have cw0 : wr.cell? ⟨w.heap.size, 0, none⟩ = some (.func (.func g) #[] lb) := grown_cell HG.out (by omega) c0
    by_cases hlt : p < q
    · have hl := S.less wr d ((p + q) / 2) a HS.out (by omega) (by have := HM.out; omega)
      rw [show (((p + q) / 2 : Nat) : Int) = ((p : Int) + q) / 2 by omega] at hl
      generalize hlv : lt d[(p + q) / 2]! d[a]! = lv at hl
      have HLV : Hid (lt d[(p + q) / 2]! d[a]! = lv) := hlv
      clear hlv
      go_wp2_with fail
      refine hl.mono ?_
      rintro e3 w2 ⟨rfl, hb2⟩
      have HS3 : Hid (St w2 d) := S.below _ _ _ HS.out hb2
      have HG3 : Hid (W0.grownBy w2 (some blk)) := grown_then HG.out (grown_below hb2)
      clear hl cw0
      cases lv with
      | true =>
        go_wp2
        go_roundw
        case rel => exact ⟨(p + q) / 2 + 1, q, by omega, by omega, hqb, by rw [show ((p : Int) + (q : Int)) / 2 + 1 = (((p + q) / 2 + 1 : Nat) : Int) by omega], rfl, fun _ => HLV.out, K2, HS3, HG3⟩
        case measure => simp [intOf]; omega
      | false =>
        go_wp2
        go_roundw
        case rel => exact ⟨p, (p + q) / 2, by omega, by omega, by omega, rfl, by rw [show ((p : Int) + (q : Int)) / 2 = (((p + q) / 2 : Nat) : Int) by omega], K1, fun _ => HLV.out, HS3, HG3⟩
        case measure => simp [intOf]; omega
    · obtain rfl : q = p := by omega
      have HG1 : Hid (W0.grownBy wr (some blk)) := HG
      clear cw0
      obtain ⟨W1, rfl⟩ : ∃ x, x = wr := ⟨_, rfl⟩
      go_wp2
      go_loopw [11] (fun i wr => ∃ (k : Nat) (e : Array α), a ≤ k ∧ k + 1 ≤ q ∧ i = .int .i64 k ∧ Hid (St wr e) ∧ Hid (Rotated a (a + 1) (k + 1) d e) ∧ Hid (PermIn a b d e) ∧ Hid (W0.grownBy wr (some blk))) (fun i _ => N - (intOf i).toNat)
      case atStart => exact ⟨a, d, Nat.le_refl _, by omega, rfl, HS, rotated_none_right d, permIn_refl _ _ _, HG⟩
      case round =>
        obtain ⟨k, e, hak, hkq, rfl, HS4, HR4, HP4, HG4⟩ := hrel
        have cw1 : wr.cell? ⟨w.heap.size, 1, none⟩ = some (.func (.func sf) #[] sb) := grown_cell HG4.out (by omega) c1
        by_cases hkl : k + 1 < q
        · have hes := S.size wr e HS4.out
          obtain ⟨W', hrun, hst, hgr⟩ := S.swap wr e k (k + 1) HS4.out (by omega) (by omega) (by omega)
          rw [show ((k + 1 : Nat) : Int) = (k : Int) + 1 from rfl] at hrun
          have HS5 : Hid (St W' (swp e k (k + 1))) := hst
          have HR5 : Hid (Rotated a (a + 1) (k + 2) d (swp e k (k + 1))) := rot_right_step HR4.out hak (by omega)
          have HP5 : Hid (PermIn a b d (swp e k (k + 1))) := permIn_trans _ _ _ _ _ HP4.out (swp_permIn e a b k (k + 1) (by omega) (by omega) (by omega) (by omega) (by omega))
          have HG5 : Hid (W0.grownBy W' (some blk)) := grown_then HG4.out hgr
          have z1 : (k : Int) < (q : Int) - 1 := by omega
          clear hst hgr
          go_wp2
          go_roundw
          case rel => exact ⟨k + 1, _, by omega, by omega, by go_num, HS5, HR5, HP5, HG5⟩
          case measure => simp [intOf]; omega
        · have z1 : ¬ (k : Int) < (q : Int) - 1 := by omega
          have z2 : decide ((k : Int) < (q : Int) - 1) = false := by simpa using z1
          obtain rfl : q = k + 1 := by omega
          go_wp2
          refine bodyPost_ret (results_none rfl _ _ _) rfl ?_
          exact ⟨rfl, e, HS4.out, one_right hO HS2.out (by omega) (by omega) HR4.out K1.out K2.out, HP4.out, grown_then (grown_below hB0) HG4.out⟩
set_option maxRecDepth 20000 in
set_option maxHeartbeats 4000000 in
theorem merge_one_left (S : Sorts lt g lb sf sb blk N St) (hO : SWO lt) (d : Array α) (w : World) (h : St w d) (a m b : Nat) (hm : b = m + 1) (h2 : a + 1 < m) (h3 : b ≤ N) (hN : N ≤ 1000000) (hs2 : SortedIn lt a m d) :
    Calls Tryz.prog 200 #[dV g lb sf sb, .int .i64 a, .int .i64 m, .int .i64 b] w fun e w' => e = .returned (.tuple #[]) ∧ ∃ d', St w' d' ∧ SortedIn lt a b d' ∧ PermIn a b d d' ∧ w.grownBy w' (some blk) := by
  have hbl := S.blt w d h
  have hsz := S.size w d h
  unfold dV
  obtain ⟨W0, hW0⟩ : ∃ W, W = w.alloc (.cells #[.func (.func g) #[] lb, .func (.func sf) #[] sb] 235) := ⟨_, rfl⟩
  have hB0 : Below w.heap.size w W0 := by rw [hW0]; exact (Below.refl _ _).alloc (Nat.le_refl _) _
  have c0 : W0.cell? ⟨w.heap.size, 0, none⟩ = some (.func (.func g) #[] lb) := by rw [hW0]; simp
  have c1 : W0.cell? ⟨w.heap.size, 1, none⟩ = some (.func (.func sf) #[] sb) := by rw [hW0]; simp
  have HS0 : Hid (St W0 d) := S.below _ _ _ h hB0
  have HW0 : Hid (W0 = _) := hW0
  have HS2 : Hid (SortedIn lt a m d) := hs2
  have eg := S.eg
  clear hW0 hs2
  go_enter Tryz.func200, Tryz.ntmps200
  have z0 : ¬ (m : Int) - (a : Int) = 1 := by omega
  have z0b : ((m : Int) - (a : Int) == 1) = false := by simpa using z0
  have z3 : (b : Int) - (m : Int) = 1 := by omega
  have HM : Hid (b = m + 1) := hm
  clear hm
  go_wp2
  rw [← HW0.out]
  go_loopw [12, 13] (fun i j wr => ∃ (p q : Nat), a ≤ p ∧ p ≤ q ∧ q ≤ m ∧ i = .int .i64 p ∧ j = .int .i64 q ∧ Hid (a < p → lt d[m]! d[p - 1]! = false) ∧ Hid (q < m → lt d[m]! d[q]! = true) ∧ Hid (St wr d) ∧ Hid (W0.grownBy wr (some blk))) (fun i j _ => (intOf j).toNat - (intOf i).toNat)
  case atStart => exact ⟨a, m, Nat.le_refl _, by omega, Nat.le_refl _, rfl, rfl, fun h => absurd h (Nat.lt_irrefl _), fun h => absurd h (Nat.lt_irrefl _), HS0, grown_refl _ _⟩
  case round =>
    obtain ⟨p, q, hp, hpq, hqb, rfl, rfl, K1, K2, HS, HG⟩ := hrel
    have cw0 : wr.cell? ⟨w.heap.size, 0, none⟩ = some (.func (.func g) #[] lb) := grown_cell HG.out (by omega) c0
    by_cases hlt : p < q
    · have hl := S.less wr d m ((p + q) / 2) HS.out (by omega) (by omega)
      rw [show (((p + q) / 2 : Nat) : Int) = ((p : Int) + q) / 2 by omega] at hl
      generalize hlv : lt d[m]! d[(p + q) / 2]! = lv at hl
      have HLV : Hid (lt d[m]! d[(p + q) / 2]! = lv) := hlv
      clear hlv
      go_wp2_with fail
      refine hl.mono ?_
      rintro e3 w2 ⟨rfl, hb2⟩
      have HS3 : Hid (St w2 d) := S.below _ _ _ HS.out hb2
      have HG3 : Hid (W0.grownBy w2 (some blk)) := grown_then HG.out (grown_below hb2)
      clear hl cw0
      cases lv with
      | false =>
        go_wp2
        go_roundw
        case rel => exact ⟨(p + q) / 2 + 1, q, by omega, by omega, hqb, by rw [show ((p : Int) + (q : Int)) / 2 + 1 = (((p + q) / 2 + 1 : Nat) : Int) by omega], rfl, fun _ => HLV.out, K2, HS3, HG3⟩
        case measure => simp [intOf]; omega
      | true =>
        go_wp2
        go_roundw
        case rel => exact ⟨p, (p + q) / 2, by omega, by omega, by omega, rfl, by rw [show ((p : Int) + (q : Int)) / 2 = (((p + q) / 2 : Nat) : Int) by omega], K1, fun _ => HLV.out, HS3, HG3⟩
        case measure => simp [intOf]; omega
    · obtain rfl : q = p := by omega
      have HG1 : Hid (W0.grownBy wr (some blk)) := HG
      clear cw0
      obtain ⟨W1, rfl⟩ : ∃ x, x = wr := ⟨_, rfl⟩
      go_wp2
      go_loopw [15] (fun i wr => ∃ (k : Nat) (e : Array α), q ≤ k ∧ k ≤ m ∧ i = .int .i64 k ∧ Hid (St wr e) ∧ Hid (Rotated k m (m + 1) d e) ∧ Hid (PermIn a b d e) ∧ Hid (W0.grownBy wr (some blk))) (fun i _ => (intOf i).toNat)
      case atStart => exact ⟨m, d, by omega, Nat.le_refl _, rfl, HS, rotated_none_left d, permIn_refl _ _ _, HG⟩
      case round =>
        obtain ⟨k, e, hqk, hkm, rfl, HS4, HR4, HP4, HG4⟩ := hrel
        have cw1 : wr.cell? ⟨w.heap.size, 1, none⟩ = some (.func (.func sf) #[] sb) := grown_cell HG4.out (by omega) c1
        by_cases hkl : q < k
        · obtain ⟨k, rfl⟩ : ∃ i, k = i + 1 := ⟨k - 1, by omega⟩
          have hes := S.size wr e HS4.out
          obtain ⟨W', hrun, hst, hgr⟩ := S.swap wr e (k + 1) k HS4.out (by omega) (by omega) (by omega)
          rw [show ((k + 1 : Nat) : Int) = (k : Int) + 1 from rfl] at hrun
          have HS5 : Hid (St W' (swp e (k + 1) k)) := hst
          have HR5 : Hid (Rotated k m (m + 1) d (swp e (k + 1) k)) := rot_left_step HR4.out (by omega) (by omega)
          have HP5 : Hid (PermIn a b d (swp e (k + 1) k)) := permIn_trans _ _ _ _ _ HP4.out (swp_permIn e a b (k + 1) k (by omega) (by omega) (by omega) (by omega) (by omega))
          have HG5 : Hid (W0.grownBy W' (some blk)) := grown_then HG4.out hgr
          have z1 : (q : Int) < (k : Int) + 1 := by omega
          clear hst hgr
          go_wp2
          go_roundw
          case rel => exact ⟨k, _, by omega, by omega, by go_num, HS5, HR5, HP5, HG5⟩
          case measure => simp [intOf] <;> omega
        · obtain rfl : q = k := by omega
          go_wp2
          refine bodyPost_ret (results_none rfl _ _ _) rfl ?_
          exact ⟨rfl, e, HS4.out, by rw [HM.out]; exact one_left hO HS2.out (by omega) (by omega) HR4.out K1.out K2.out, HP4.out, grown_then (grown_below hB0) HG4.out⟩
end
end Go.Proofs.YtcfgacdcgljbaaaGreatDoor
