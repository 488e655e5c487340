/- The walks of sort.swapRange_func, sort.rotate_func, sort.insertionSort_func, over whatever less and swap. -/
import Derived.Test.YtcfgacdcgljbaaaGreatDoorBnE
import Derived.Test.YtcfgacdcgljbaaaGreatDoorBnC
import Derived.Shelf.Abstract
namespace Go.Proofs.YtcfgacdcgljbaaaGreatDoor
open Go.RowKit
open Go.Sort hiding Below
open Go.Shelf
variable {α : Type} [Inhabited α]
/-- What a sort is handed: a row in block blk, of N elements, a function that compares two of them and one that exchanges two. -/
structure Sorts (lt : α → α → Bool) (g : Nat) (lb : Array Value) (sf : Nat) (sb : Array Value) (blk N : Nat) (St : World → Array α → Prop) : Prop where
  size : ∀ W d, St W d → d.size = N
  blt : ∀ W d, St W d → blk < W.heap.size
  less : ∀ W d (i j : Nat), St W d → i < N → j < N → Calls Tryz.prog g (#[.int .i64 i, .int .i64 j] ++ lb) W fun e w' => e = .returned (.bool (lt d[i]! d[j]!)) ∧ Below W.heap.size W w'
  swap : ∀ W d (i j : Nat), St W d → i < N → j < N → i ≠ j → ∃ W', (callFunc sf (#[.int .i64 i, .int .i64 j] ++ sb)).run Tryz.prog W = .ok (.value (.tuple #[])) W' ∧ St W' (swp d i j) ∧ W.grownBy W' (some blk)
  below : ∀ W W' d, St W d → Below W.heap.size W W' → St W' d
  eg : ∀ args w, (callFunc g args).run Tryz.prog w = .ok (.enter g args) w
/-- What is handed on: the two functions. -/
def dV (g : Nat) (lb : Array Value) (sf : Nat) (sb : Array Value) : Value := .agg #[.func (.func g) #[] lb, .func (.func sf) #[] sb]
theorem grown_below {w w' : World} {r : Option Nat} (h : Below w.heap.size w w') : w.grownBy w' r := ⟨h.os, h.tape, h.output, h.size, fun k hk _ => h.block k hk⟩
theorem grown_then {a b c : World} {r : Nat} (h : a.grownBy b (some r)) (h' : b.grownBy c (some r)) : a.grownBy c (some r) :=
  ⟨h'.os.trans h.os, h'.tape.trans h.tape, h'.output.trans h.output, Nat.le_trans h.size h'.size, fun k hk hn => (h'.block k (Nat.lt_of_lt_of_le hk h.size) hn).trans (h.block k hk hn)⟩
theorem grown_refl (w : World) (r : Option Nat) : w.grownBy w r := ⟨rfl, rfl, rfl, Nat.le_refl _, fun _ _ _ => rfl⟩
theorem grown_cell {w w' : World} {r c o : Nat} {v : Value} (h : w.grownBy w' (some r)) (hc : c ≠ r) (hv : w.cell? ⟨c, o, none⟩ = some v) : w'.cell? ⟨c, o, none⟩ = some v := h.cell hv (fun e => hc (by injection e))
section
variable {lt : α → α → Bool} {g : Nat} {lb : Array Value} {sf : Nat} {sb : Array Value} {blk N : Nat} {St : World → Array α → Prop}
set_option maxRecDepth 20000 in
set_option maxHeartbeats 4000000 in
theorem swapRange_any (S : Sorts lt g lb sf sb blk N St) (d : Array α) (w : World) (h : St w d) (a b n : Nat) (h1 : a + n ≤ b) (h2 : b + n ≤ N) (hN : N ≤ 1000000) :
    Calls Tryz.prog 267 #[dV g lb sf sb, .int .i64 a, .int .i64 b, .int .i64 n] w fun e w' => e = .returned (.tuple #[]) ∧ ∃ d', St w' d' ∧ Swapped a b n d d' ∧ PermIn a (b + n) d d' ∧ w.grownBy w' (some blk) := by
  have hbl := S.blt w d h
  have hsz := S.size w d h
  unfold dV
  obtain ⟨W0, hW0⟩ : ∃ W, W = w.alloc (.cells #[.func (.func g) #[] lb, .func (.func sf) #[] sb] 235) := ⟨_, rfl⟩
  have hB0 : Below w.heap.size w W0 := by rw [hW0]; exact (Below.refl _ _).alloc (Nat.le_refl _) _
  have c1 : W0.cell? ⟨w.heap.size, 1, none⟩ = some (.func (.func sf) #[] sb) := by rw [hW0]; simp
  have HS0 : Hid (St W0 d) := S.below _ _ _ h hB0
  have HW0 : Hid (W0 = _) := hW0
  clear hW0
  go_enter Tryz.func267, Tryz.ntmps267
  go_wp2
  rw [← HW0.out]
  go_loopw [8] (fun i wr => ∃ (k : Nat) (e : Array α), k ≤ n ∧ i = .int .i64 k ∧ Hid (St wr e) ∧ Hid (Swapped a b k d e) ∧ Hid (PermIn a (b + n) d e) ∧ Hid (W0.grownBy wr (some blk))) (fun i _ => n - (intOf i).toNat)
  case atStart => exact ⟨0, d, Nat.zero_le _, rfl, HS0, swapped_zero a b d, permIn_refl _ _ _, grown_refl _ _⟩
  case round =>
    obtain ⟨k, e, hk, rfl, HS, HW, HP, HG⟩ := hrel
    by_cases hlt : k < n
    · have hes := S.size wr e HS.out
      obtain ⟨W', hrun, hst, hgr⟩ := S.swap wr e (a + k) (b + k) HS.out (by omega) (by omega) (by omega)
      rw [Int.natCast_add, Int.natCast_add] at hrun
      have cw : wr.cell? ⟨w.heap.size, 1, none⟩ = some (.func (.func sf) #[] sb) := grown_cell HG.out (by omega) c1
      have HS' : Hid (St W' (swp e (a + k) (b + k))) := hst
      have HW' : Hid (Swapped a b (k + 1) d (swp e (a + k) (b + k))) := swapped_step HW.out (by omega) (by omega) (by omega)
      have HP' : Hid (PermIn a (b + n) d (swp e (a + k) (b + k))) := permIn_trans _ _ _ _ _ HP.out (swp_permIn e a (b + n) (a + k) (b + k) (by omega) (by omega) (by omega) (by omega) (by omega))
      have HG' : Hid (W0.grownBy W' (some blk)) := grown_then HG.out hgr
      clear hst hgr
      go_wp2
      go_roundw
      case rel => exact ⟨k + 1, _, by omega, by go_num, HS', HW', HP', HG'⟩
      case measure => simp [intOf]; omega
    · obtain rfl : k = n := by omega
      go_wp2
      go_end0
      exact ⟨rfl, e, HS.out, HW.out, HP.out, grown_then (grown_below hB0) HG.out⟩
set_option maxRecDepth 20000 in
set_option maxHeartbeats 4000000 in
theorem insertion_any (S : Sorts lt g lb sf sb blk N St) (hO : SWO lt) (d : Array α) (w : World) (h : St w d) (a b : Nat) (h1 : a ≤ b) (h2 : b ≤ N) (hN : N ≤ 1000000) :
    Calls Tryz.prog 178 #[dV g lb sf sb, .int .i64 a, .int .i64 b] w fun e w' => e = .returned (.tuple #[]) ∧ ∃ d', St w' d' ∧ SortedIn lt a b d' ∧ PermIn a b d d' ∧ w.grownBy w' (some blk) := by
  have hbl := S.blt w d h
  have hsz := S.size w d h
  unfold dV
  obtain ⟨W0, hW0⟩ : ∃ W, W = w.alloc (.cells #[.func (.func g) #[] lb, .func (.func sf) #[] sb] 235) := ⟨_, rfl⟩
  have hB0 : Below w.heap.size w W0 := by rw [hW0]; exact (Below.refl _ _).alloc (Nat.le_refl _) _
  have c0 : W0.cell? ⟨w.heap.size, 0, none⟩ = some (.func (.func g) #[] lb) := by rw [hW0]; simp
  have c1 : W0.cell? ⟨w.heap.size, 1, none⟩ = some (.func (.func sf) #[] sb) := by rw [hW0]; simp
  have HS0 : Hid (St W0 d) := S.below _ _ _ h hB0
  have HW0 : Hid (W0 = _) := hW0
  have eg := S.eg
  clear hW0
  go_enter Tryz.func178, Tryz.ntmps178
  go_wp2
  rw [← HW0.out]
  go_loopw [6] (fun i wr => ∃ (k : Nat) (e : Array α), a + 1 ≤ k ∧ k ≤ N + 1 ∧ i = .int .i64 k ∧ Hid (St wr e) ∧ Hid (insOuter lt a b k e = insertionSort lt d a b) ∧ Hid (W0.grownBy wr (some blk))) (fun i _ => N + 1 - (intOf i).toNat)
  case atStart => exact ⟨a + 1, d, Nat.le_refl _, by omega, by go_num, HS0, rfl, grown_refl _ _⟩
  case round =>
    obtain ⟨k, e, hk1, hk2, rfl, HS, HI, HG⟩ := hrel
    by_cases hlt : k < b
    · have HI2 : Hid (insOuter lt a b (k + 1) (insInner lt a k e) = insertionSort lt d a b) := by
        have := HI.out
        rw [insOuter, if_pos hlt] at this
        exact this
      obtain ⟨W1, rfl⟩ : ∃ x, x = wr := ⟨_, rfl⟩
      go_wp2
      go_loopw [7] (fun i wr => ∃ (j : Nat) (e2 : Array α), j ≤ k ∧ a ≤ j ∧ i = .int .i64 j ∧ Hid (St wr e2) ∧ Hid (insInner lt a j e2 = insInner lt a k e) ∧ Hid (W0.grownBy wr (some blk))) (fun i _ => (intOf i).toNat)
      case atStart => exact ⟨k, e, Nat.le_refl _, by omega, rfl, HS, rfl, HG⟩
      case round =>
        obtain ⟨j, e2, hj, haj, rfl, HS2, HJ, HG2⟩ := hrel
        have cw0 : wr.cell? ⟨w.heap.size, 0, none⟩ = some (.func (.func g) #[] lb) := grown_cell HG2.out (by omega) c0
        have cw1 : wr.cell? ⟨w.heap.size, 1, none⟩ = some (.func (.func sf) #[] sb) := grown_cell HG2.out (by omega) c1
        by_cases hja : a < j
        · obtain ⟨i, rfl⟩ : ∃ i, j = i + 1 := ⟨j - 1, by omega⟩
          have hl := S.less wr e2 (i + 1) i HS2.out (by omega) (by omega)
          rw [show ((i + 1 : Nat) : Int) = (i : Int) + 1 from rfl] at hl
          have hz : (a : Int) < (i : Int) + 1 := by omega
          have HJ2 : Hid (insInner lt a (i + 1) e2 = if (i + 1 > a && lt e2[i + 1]! e2[i]!) = true then insInner lt a i (swp e2 (i + 1) i) else e2) := rfl
          generalize hlv : lt e2[i + 1]! e2[i]! = lv at hl
          have HLV : Hid (lt e2[i + 1]! e2[i]! = lv) := hlv
          clear hlv
          go_wp2_with fail
          refine hl.mono ?_
          rintro e3 w2 ⟨rfl, hb2⟩
          have HS3 := S.below _ _ _ HS2.out hb2
          have cw2 : w2.cell? ⟨w.heap.size, 1, none⟩ = some (.func (.func sf) #[] sb) := (hb2.cell (p := ⟨w.heap.size, 1, none⟩) (World.block_lt_of_cell? _ _ cw1)).trans cw1
          have HG3 : Hid (W0.grownBy w2 (some blk)) := grown_then HG2.out (grown_below hb2)
          clear hl cw0 cw1
          cases lv with
          | true =>
            obtain ⟨W', hrun, hst, hgr⟩ := S.swap w2 e2 (i + 1) i HS3 (by omega) (by omega) (by omega)
            rw [show ((i + 1 : Nat) : Int) = (i : Int) + 1 from rfl] at hrun
            have HS4 : Hid (St W' (swp e2 (i + 1) i)) := hst
            have HJ4 : Hid (insInner lt a i (swp e2 (i + 1) i) = insInner lt a k e) := by
              have e1 := HJ2.out
              rw [HLV.out, if_pos (by simp; omega)] at e1
              exact e1.symm.trans HJ.out
            have HG4 : Hid (W0.grownBy W' (some blk)) := grown_then HG3.out hgr
            clear hst hgr HS3
            go_wp2
            go_roundw
            case rel => exact ⟨i, _, by omega, by omega, by go_num, HS4, HJ4, HG4⟩
            case measure => simp [intOf] <;> omega
          | false =>
            have HI3 : Hid (insOuter lt a b (k + 1) e2 = insertionSort lt d a b) := by
              have e1 := HJ2.out
              rw [HLV.out, if_neg (by simp)] at e1
              have := HI2.out
              rw [← HJ.out, e1] at this
              exact this
            go_wp2
            go_roundw
            case rel => exact ⟨k + 1, e2, by omega, by omega, by go_num, HS3, HI3, HG3⟩
            case measure => simp [intOf]; omega
        · have hz : ¬ (a : Int) < (j : Int) := by omega
          have hzd : decide ((a : Int) < (j : Int)) = false := by simpa using hz
          have HI3 : Hid (insOuter lt a b (k + 1) e2 = insertionSort lt d a b) := by
            have e1 : insInner lt a j e2 = e2 := by
              cases j with
              | zero => rfl
              | succ i => rw [insInner, if_neg (by simp; omega)]
            have := HI2.out
            rw [← HJ.out, e1] at this
            exact this
          go_wp2
          go_roundw
          case rel => exact ⟨k + 1, e2, by omega, by omega, by go_num, HS2, HI3, HG2⟩
          case measure => simp [intOf]; omega
    · go_wp2
      go_end0
      have hfin : e = insertionSort lt d a b := by
        have := HI.out
        rw [insOuter, if_neg hlt] at this
        exact this
      have hsp := insertionSort_holds (lt := lt) hO d a b h1 (by omega)
      exact ⟨rfl, e, HS.out, by rw [hfin]; exact hsp.2, by rw [hfin]; exact hsp.1, grown_then (grown_below hB0) HG.out⟩
set_option maxRecDepth 20000 in
set_option maxHeartbeats 4000000 in
theorem rotate_any (S : Sorts lt g lb sf sb blk N St) (d : Array α) (w : World) (h : St w d) (a m b : Nat) (h1 : a < m) (h2 : m < b) (h3 : b ≤ N) (hN : N ≤ 1000000) :
    Calls Tryz.prog 246 #[dV g lb sf sb, .int .i64 a, .int .i64 m, .int .i64 b] w fun e w' => e = .returned (.tuple #[]) ∧ ∃ d', St w' d' ∧ Rotated a m b d d' ∧ PermIn a b d d' ∧ w.grownBy w' (some blk) := by
  have hbl := S.blt w d h
  have hsz := S.size w d h
  obtain ⟨R, hR⟩ : ∃ R : Nat → α, R = fun t => if a ≤ t ∧ t < a + (b - m) then d[t + (m - a)]! else if a + (b - m) ≤ t ∧ t < b then d[t - (b - m)]! else d[t]! := ⟨_, rfl⟩
  have HR : Hid (R = _) := hR
  have HT0 : Hid (Turns m (m - a) (b - m) R d) := by rw [hR]; exact turns_start d (by omega) (by omega)
  clear hR
  have hsw := fun W e (x y n : Nat) (hs : St W e) (hx : x + n ≤ y) (hy : y + n ≤ N) => swapRange_any S e W hs x y n hx hy hN
  unfold dV at hsw ⊢
  obtain ⟨W0, hW0⟩ : ∃ W, W = w.alloc (.cells #[.func (.func g) #[] lb, .func (.func sf) #[] sb] 235) := ⟨_, rfl⟩
  have hB0 : Below w.heap.size w W0 := by rw [hW0]; exact (Below.refl _ _).alloc (Nat.le_refl _) _
  have c0 : W0.cell? ⟨w.heap.size, 0, none⟩ = some (.func (.func g) #[] lb) := by rw [hW0]; simp
  have c1 : W0.cell? ⟨w.heap.size, 1, none⟩ = some (.func (.func sf) #[] sb) := by rw [hW0]; simp
  have HS0 : Hid (St W0 d) := S.below _ _ _ h hB0
  have HW0 : Hid (W0 = _) := hW0
  clear hW0
  have za : (a : Int) < (m : Int) := by omega
  have zm : (m : Int) < (b : Int) := by omega
  have zb : (b : Int) ≤ 1000000 := by omega
  go_enter Tryz.func246, Tryz.ntmps246
  go_wp2
  rw [← HW0.out]
  go_loopw [8, 9] (fun i j wr => ∃ (p q : Nat) (e : Array α), 0 < p ∧ 0 < q ∧ p ≤ m - a ∧ q ≤ b - m ∧ i = .int .i64 p ∧ j = .int .i64 q ∧ Hid (St wr e) ∧ Hid (Turns m p q R e) ∧ Hid (PermIn a b d e) ∧ Hid (W0.grownBy wr (some blk))) (fun i j _ => (intOf i).toNat + (intOf j).toNat)
  case atStart => exact ⟨m - a, b - m, d, by omega, by omega, Nat.le_refl _, Nat.le_refl _, by rw [Int.ofNat_sub (by omega)], by rw [Int.ofNat_sub (by omega)], HS0, HT0, permIn_refl _ _ _, grown_refl _ _⟩
  case round =>
    obtain ⟨p, q, e, hp0, hq0, hpm, hqb, rfl, rfl, HS, HT, HP, HG⟩ := hrel
    have cw0 : wr.cell? ⟨w.heap.size, 0, none⟩ = some (.func (.func g) #[] lb) := grown_cell HG.out (by omega) c0
    have cw1 : wr.cell? ⟨w.heap.size, 1, none⟩ = some (.func (.func sf) #[] sb) := grown_cell HG.out (by omega) c1
    have e1 : Hid (((m - p : Nat) : Int) = (m : Int) - p) := Int.ofNat_sub (by omega)
    rcases Nat.lt_trichotomy p q with hlt | heq | hgt
    · have z1 : (p : Int) < (q : Int) := by omega
      have hc := hsw wr e (m - p) (m + q - p) p HS.out (by omega) (by omega)
      have e2 : ((m + q - p : Nat) : Int) = (m : Int) + q - p := by rw [Int.ofNat_sub (by omega), Int.natCast_add]
      rw [e1.out, e2] at hc
      clear e2
      go_wp2_with fail
      refine hc.mono ?_
      rintro e3 w2 ⟨rfl, d2, hs2, hw2, hp2, hg2⟩
      have HS2 : Hid (St w2 d2) := hs2
      have HT2 : Hid (Turns m p (q - p) R d2) := turns_right HT.out (by omega) hlt hw2
      have HP2 : Hid (PermIn a b d d2) := permIn_trans _ _ _ _ _ HP.out (permIn_mono _ _ _ _ _ _ (by omega) (by omega) (by have := S.size _ _ HS.out; omega) hp2)
      have HG2 : Hid (W0.grownBy w2 (some blk)) := grown_then HG.out hg2
      clear hs2 hw2 hp2 hg2 hc cw0 cw1
      go_wp2
      go_roundw
      case rel => exact ⟨p, q - p, d2, by omega, by omega, by omega, by omega, rfl, by rw [Int.ofNat_sub (by omega)], HS2, HT2, HP2, HG2⟩
      case measure => simp [intOf]; omega
    · subst heq
      have hc := hsw wr e (m - p) m p HS.out (by omega) (by omega)
      rw [e1.out] at hc
      go_wp2_with fail
      refine hc.mono ?_
      rintro e3 w2 ⟨rfl, d2, hs2, hw2, hp2, hg2⟩
      go_wp2
      go_end0
      refine ⟨rfl, d2, hs2, ?_, permIn_trans _ _ _ _ _ HP.out (permIn_mono _ _ _ _ _ _ (by omega) (by omega) (by have := S.size _ _ HS.out; omega) hp2), grown_then (grown_then (grown_below hB0) HG.out) hg2⟩
      have := turns_end HT.out (by omega) hw2
      rw [HR.out] at this
      exact this
    · have z1 : (q : Int) < (p : Int) := by omega
      have hc := hsw wr e (m - p) m q HS.out (by omega) (by omega)
      rw [e1.out] at hc
      go_wp2_with fail
      refine hc.mono ?_
      rintro e3 w2 ⟨rfl, d2, hs2, hw2, hp2, hg2⟩
      have HS2 : Hid (St w2 d2) := hs2
      have HT2 : Hid (Turns m (p - q) q R d2) := turns_left HT.out (by omega) hgt hw2
      have HP2 : Hid (PermIn a b d d2) := permIn_trans _ _ _ _ _ HP.out (permIn_mono _ _ _ _ _ _ (by omega) (by omega) (by have := S.size _ _ HS.out; omega) hp2)
      have HG2 : Hid (W0.grownBy w2 (some blk)) := grown_then HG.out hg2
      clear hs2 hw2 hp2 hg2 hc cw0 cw1
      go_wp2
      go_roundw
      case rel => exact ⟨p - q, q, d2, by omega, by omega, by omega, by omega, by rw [Int.ofNat_sub (by omega)], rfl, HS2, HT2, HP2, HG2⟩
      case measure => simp [intOf]; omega
end
end Go.Proofs.YtcfgacdcgljbaaaGreatDoor
