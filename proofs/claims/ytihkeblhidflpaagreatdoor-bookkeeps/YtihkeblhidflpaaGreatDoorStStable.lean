/- sort.stable_func, over whatever less and swap. -/
import Derived.Test.YtihkeblhidflpaaGreatDoorStSym
namespace Go.Proofs.YtihkeblhidflpaaGreatDoor
open Go.RowKit
open Go.Sort hiding Below
open Go.Shelf
variable {α : Type} [Inhabited α]
section
variable {lt : α → α → Bool}
/-- Each block of B is sorted. -/
def Blk (lt : α → α → Bool) (B n : Nat) (d : Array α) : Prop := ∀ j x, x = B * j → SortedIn lt x (min (x + B) n) d
/-- Up to a the blocks of twice B are sorted, from there on those of B. -/
def Mrg (lt : α → α → Bool) (B n a : Nat) (d : Array α) : Prop := (∃ k, a = 2 * B * k) ∧ (∀ j x, x = 2 * B * j → x + 2 * B ≤ a → SortedIn lt x (x + 2 * B) d) ∧ (∀ j x, x = B * j → a ≤ x → SortedIn lt x (min (x + B) n) d)
/-- The first blocks of 20. -/
def Fst (lt : α → α → Bool) (a : Nat) (d : Array α) : Prop := (∃ k, a = 20 * k) ∧ ∀ j, 20 * j + 20 ≤ a → SortedIn lt (20 * j) (20 * j + 20) d
theorem fst_start (d : Array α) : Fst lt 0 d := ⟨⟨0, rfl⟩, fun j h => by omega⟩
theorem fst_step {a : Nat} {d d' : Array α} (h : Fst lt a d) (hs : SortedIn lt a (a + 20) d') (hp : PermIn a (a + 20) d d') : Fst lt (a + 20) d' := by
  obtain ⟨⟨k, hk⟩, h2⟩ := h
  refine ⟨⟨k + 1, by omega⟩, fun j hj => ?_⟩
  by_cases e : 20 * j + 20 ≤ a
  · exact sorted_out (h2 j e) hp (Or.inl e)
  · have : 20 * j = a := by omega
    rw [this]; exact hs
theorem fst_end {a n : Nat} {d d' : Array α} (h : Fst lt a d) (han : a ≤ n) (hna : n < a + 20) (hs : SortedIn lt a n d') (hp : PermIn a n d d') : Blk lt 20 n d' := by
  obtain ⟨⟨k, hk⟩, h2⟩ := h
  intro j x hx
  subst hx
  by_cases e : 20 * j + 20 ≤ a
  · rw [Nat.min_eq_left (by omega)]
    exact sorted_out (h2 j e) hp (Or.inl e)
  · by_cases e2 : 20 * j = a
    · rw [e2, Nat.min_eq_right (by omega)]; exact hs
    · exact SortedIn.empty _ (by omega)
theorem mrg_start {B n : Nat} {d : Array α} (hB : 0 < B) (h : Blk lt B n d) : Mrg lt B n 0 d := ⟨⟨0, rfl⟩, fun j x _ h2 => by omega, fun j x hx _ => h j x hx⟩
theorem mrg_here {B n a : Nat} {d : Array α} (h : Mrg lt B n a d) : SortedIn lt a (min (a + B) n) d ∧ SortedIn lt (a + B) (min (a + 2 * B) n) d := by
  obtain ⟨⟨k, hk⟩, _, h3⟩ := h
  have e1 : a = B * (2 * k) := by rw [hk, Nat.mul_comm 2 B, Nat.mul_assoc]
  refine ⟨h3 (2 * k) a e1 (Nat.le_refl _), ?_⟩
  have := h3 (2 * k + 1) (a + B) (by rw [e1, Nat.mul_add, Nat.mul_one]) (by omega)
  rwa [show a + B + B = a + 2 * B by omega] at this
theorem mul_near {c j k : Nat} (h1 : c * j ≤ c * k) (h2 : c * k < c * j + c) : j = k := by
  have h3 : c * k < c * (j + 1) := by rw [Nat.mul_add, Nat.mul_one]; exact h2
  have h4 := Nat.lt_of_mul_lt_mul_left h3
  have hc : 0 < c := by omega
  have h5 := Nat.le_of_mul_le_mul_left h1 hc
  omega
theorem mrg_step {B n a : Nat} {d d' : Array α} (h : Mrg lt B n a d) (hs : SortedIn lt a (a + 2 * B) d') (hp : PermIn a (a + 2 * B) d d') : Mrg lt B n (a + 2 * B) d' := by
  obtain ⟨⟨k, hk⟩, h2, h3⟩ := h
  refine ⟨⟨k + 1, by rw [hk, Nat.mul_add, Nat.mul_one]⟩, fun j x hx hl => ?_, fun j x hx hl => sorted_out (h3 j x hx (by omega)) hp (Or.inr hl)⟩
  by_cases e : x + 2 * B ≤ a
  · exact sorted_out (h2 j x hx e) hp (Or.inl e)
  · have : j = k := mul_near (c := 2 * B) (by omega) (by omega)
    have e2 : x = a := by rw [hx, hk, this]
    rw [e2]; exact hs
theorem mrg_end {B n a : Nat} {d d' : Array α} (h : Mrg lt B n a d) (han : a ≤ n) (hna : n < a + 2 * B) (hs : SortedIn lt a n d') (hp : PermIn a n d d') : Blk lt (2 * B) n d' := by
  obtain ⟨⟨k, hk⟩, h2, _⟩ := h
  intro j x hx
  by_cases e : x + 2 * B ≤ a
  · rw [Nat.min_eq_left (by omega)]
    exact sorted_out (h2 j x hx e) hp (Or.inl e)
  · by_cases e2 : x ≤ a
    · have : j = k := mul_near (c := 2 * B) (by omega) (by omega)
      have e3 : x = a := by rw [hx, hk, this]
      rw [e3, Nat.min_eq_right (by omega)]; exact hs
    · refine SortedIn.empty _ ?_
      rcases Nat.lt_or_ge x n with e4 | e4
      · have : k = j := mul_near (c := 2 * B) (by omega) (by omega)
        have e3 : x = a := by rw [hx, hk, this]
        omega
      · omega
variable {g : Nat} {lb : Array Value} {sf : Nat} {sb : Array Value} {blk N : Nat} {St : World → Array α → Prop}
set_option maxRecDepth 20000 in
set_option maxHeartbeats 8000000 in
theorem stable_any (S : Sorts lt g lb sf sb blk N St) (hO : SWO lt) (hN : N ≤ 1000000) (d : Array α) (w : World) (h : St w d) :
    Calls Tryz.prog 58 #[dV g lb sf sb, .int .i64 N] w (Merges lt St blk 0 N d w) := by
  have hbl := S.blt w d h
  have hsz := S.size w d h
  have hins := fun W e (x y : Nat) (hs : St W e) (hx : x ≤ y) (hy : y ≤ N) => insertion_any S hO e W hs x y hx hy hN
  have hsym := fun W e (x y z : Nat) (hs : St W e) (hx : x < y) (hy : y < z) (hz : z ≤ N) (s1 : SortedIn lt x y e) (s2 : SortedIn lt y z e) => sym_any S hO hN (z - x) x y z rfl hx hy hz e W hs s1 s2
  unfold dV at hins hsym ⊢
  obtain ⟨W0, hW0⟩ : ∃ W, W = w.alloc (.cells #[.func (.func g) #[] lb, .func (.func sf) #[] sb] 109) := ⟨_, rfl⟩
  have hB0 : Below w.heap.size w W0 := by rw [hW0]; exact (Below.refl _ _).alloc (Nat.le_refl _) _
  have c0 : W0.cell? ⟨w.heap.size, 0, none⟩ = some (.func (.func g) #[] lb) := by rw [hW0]; simp
  have c1 : W0.cell? ⟨w.heap.size, 1, none⟩ = some (.func (.func sf) #[] sb) := by rw [hW0]; simp
  have HS0 : Hid (St W0 d) := S.below _ _ _ h hB0
  have HW0 : Hid (W0 = _) := hW0
  have HI : Hid _ := hins
  have HM : Hid _ := hsym
  clear hW0 hins hsym
  go_enter Tryz.func58, Tryz.ntmps58
  go_wp2
  rw [← HW0.out]
  go_loopw [5, 6] (fun i j wr => ∃ (a : Nat) (e : Array α), a ≤ N ∧ i = .int .i64 a ∧ j = .int .i64 (a + 20 : Nat) ∧ Hid (St wr e) ∧ Hid (Fst lt a e) ∧ Hid (PermIn 0 N d e) ∧ Hid (W0.grownBy wr (some blk))) (fun i j _ => 1000001 - (intOf i).toNat)
  case atStart => exact ⟨0, d, Nat.zero_le _, rfl, rfl, HS0, fst_start d, permIn_refl _ _ _, grown_refl _ _⟩
  case round =>
    obtain ⟨a, e, ha, rfl, rfl, HS, HF, HP, HG⟩ := hrel
    have cw0 : wr.cell? ⟨w.heap.size, 0, none⟩ = some (.func (.func g) #[] lb) := grown_cell HG.out (by omega) c0
    have cw1 : wr.cell? ⟨w.heap.size, 1, none⟩ = some (.func (.func sf) #[] sb) := grown_cell HG.out (by omega) c1
    have hes := S.size wr e HS.out
    by_cases hb : a + 20 ≤ N
    · have z1 : (a : Int) + 20 ≤ (N : Int) := by omega
      have hc := HI.out wr e a (a + 20) HS.out (by omega) hb
      rw [show ((a + 20 : Nat) : Int) = (a : Int) + 20 from rfl] at hc
      go_wp2_with fail
      refine hc.mono ?_
      rintro e3 w2 ⟨rfl, d2, hs2, hw2, hp2, hg2⟩
      have HS2 : Hid (St w2 d2) := hs2
      have HF2 : Hid (Fst lt (a + 20) d2) := fst_step HF.out hw2 hp2
      have HP2 : Hid (PermIn 0 N d d2) := permIn_trans _ _ _ _ _ HP.out (permIn_mono _ _ _ _ _ _ (by omega) (by omega) (by omega) hp2)
      have HG2 : Hid (W0.grownBy w2 (some blk)) := grown_then HG.out hg2
      clear hs2 hw2 hp2 hg2 hc
      go_wp2
      go_roundw
      case rel => exact ⟨a + 20, d2, hb, by go_num, by go_num, HS2, HF2, HP2, HG2⟩
      case measure => simp [intOf]; omega
    · have z1 : ¬ (a : Int) + 20 ≤ (N : Int) := by omega
      have hc := HI.out wr e a N HS.out ha (Nat.le_refl _)
      go_wp2_with fail
      refine hc.mono ?_
      rintro e3 w2 ⟨rfl, d2, hs2, hw2, hp2, hg2⟩
      have HS2 : Hid (St w2 d2) := hs2
      have HF2 : Hid (Blk lt 20 N d2) := fst_end HF.out ha (by omega) hw2 hp2
      have HP2 : Hid (PermIn 0 N d d2) := permIn_trans _ _ _ _ _ HP.out (permIn_mono _ _ _ _ _ _ (by omega) (by omega) (by omega) hp2)
      have HG2 : Hid (W0.grownBy w2 (some blk)) := grown_then HG.out hg2
      clear hs2 hw2 hp2 hg2 hc cw0 cw1
      go_wp2
      go_loopw [4, 5, 6, 7] (fun i4 i5 i6 i7 wr => ∃ (B : Nat) (e : Array α), 0 < B ∧ B ≤ 2000000 ∧ i4 = .int .i64 B ∧ Hid (St wr e) ∧ Hid (Blk lt B N e) ∧ Hid (PermIn 0 N d e) ∧ Hid (W0.grownBy wr (some blk))) (fun i _ _ _ _ => 2000001 - (intOf i).toNat)
      case atStart => exact ⟨20, d2, by omega, by omega, rfl, HS2, HF2, HP2, HG2⟩
      case round =>
        clear HS2 HF2 HP2 HG2 HS HF HP HG hes
        obtain ⟨B, e2, hB, hB2, rfl, HS, HF, HP, HG⟩ := hrel
        by_cases hb3 : B < N
        · have z2 : (B : Int) < (N : Int) := by omega
          obtain ⟨W1, rfl⟩ : ∃ x, x = wr := ⟨_, rfl⟩
          have e2B : Hid ((2 : Int) * (B : Int) = ((2 * B : Nat) : Int)) := (by omega : (2 : Int) * (B : Int) = ((2 * B : Nat) : Int))
          go_wp2
          go_loopw [5, 6] (fun i j wr => ∃ (a : Nat) (e : Array α), a ≤ N ∧ i = .int .i64 a ∧ j = .int .i64 ((a : Int) + 2 * (B : Int)) ∧ Hid (St wr e) ∧ Hid (Mrg lt B N a e) ∧ Hid (PermIn 0 N d e) ∧ Hid (W0.grownBy wr (some blk))) (fun i j _ => 1000001 - (intOf i).toNat)
          case atStart => exact ⟨0, e2, Nat.zero_le _, rfl, by congr 1 <;> omega, HS, mrg_start hB HF.out, HP, HG⟩
          case round =>
            clear HS HF HP HG
            obtain ⟨a, e3, ha, rfl, rfl, HS, HF, HP, HG⟩ := hrel
            have cw0 : wr.cell? ⟨w.heap.size, 0, none⟩ = some (.func (.func g) #[] lb) := grown_cell HG.out (by omega) c0
            have cw1 : wr.cell? ⟨w.heap.size, 1, none⟩ = some (.func (.func sf) #[] sb) := grown_cell HG.out (by omega) c1
            have hes := S.size wr e3 HS.out
            have HH : Hid _ := mrg_here HF.out
            by_cases hb4 : a + 2 * B ≤ N
            · have z3 : (a : Int) + 2 * (B : Int) ≤ (N : Int) := by omega
              have hh := HH.out
              rw [Nat.min_eq_left (by omega), Nat.min_eq_left (by omega)] at hh
              have hc := HM.out wr e3 a (a + B) (a + 2 * B) HS.out (by omega) (by omega) hb4 hh.1 hh.2
              rw [show ((a + B : Nat) : Int) = (a : Int) + B by omega, show ((a + 2 * B : Nat) : Int) = (a : Int) + 2 * (B : Int) by omega] at hc
              clear hh
              go_wp2_with fail
              refine hc.mono ?_
              rintro e4 w2 ⟨rfl, d2, hs2, hw2, hp2, hg2⟩
              have HS2 : Hid (St w2 d2) := hs2
              have HF2 : Hid (Mrg lt B N (a + 2 * B) d2) := mrg_step HF.out hw2 hp2
              have HP2 : Hid (PermIn 0 N d d2) := permIn_trans _ _ _ _ _ HP.out (permIn_mono _ _ _ _ _ _ (by omega) (by omega) (by omega) hp2)
              have HG2 : Hid (W0.grownBy w2 (some blk)) := grown_then HG.out hg2
              clear hs2 hw2 hp2 hg2 hc
              go_wp2
              go_roundw
              case rel => exact ⟨a + 2 * B, d2, hb4, by congr 1 <;> omega, by congr 1 <;> omega, HS2, HF2, HP2, HG2⟩
              case measure => simp [intOf]; omega
            · have z3 : ¬ (a : Int) + 2 * (B : Int) ≤ (N : Int) := by omega
              by_cases hm : a + B < N
              · have z4 : (a : Int) + (B : Int) < (N : Int) := by omega
                have hh := HH.out
                rw [Nat.min_eq_left (by omega), Nat.min_eq_right (by omega)] at hh
                have hc := HM.out wr e3 a (a + B) N HS.out (by omega) hm (Nat.le_refl _) hh.1 hh.2
                rw [show ((a + B : Nat) : Int) = (a : Int) + B by omega] at hc
                clear hh
                go_wp2_with fail
                refine hc.mono ?_
                rintro e4 w2 ⟨rfl, d2, hs2, hw2, hp2, hg2⟩
                have HS2 : Hid (St w2 d2) := hs2
                have HF2 : Hid (Blk lt (2 * B) N d2) := mrg_end HF.out ha (by omega) hw2 hp2
                have HP2 : Hid (PermIn 0 N d d2) := permIn_trans _ _ _ _ _ HP.out (permIn_mono _ _ _ _ _ _ (by omega) (by omega) (by omega) hp2)
                have HG2 : Hid (W0.grownBy w2 (some blk)) := grown_then HG.out hg2
                clear hs2 hw2 hp2 hg2 hc
                go_wp2
                go_roundw
                case rel => exact ⟨2 * B, d2, by omega, by omega, by congr 1 <;> omega, HS2, HF2, HP2, HG2⟩
                case measure => simp [intOf]; omega
              · have z4 : ¬ (a : Int) + (B : Int) < (N : Int) := by omega
                have HF2 : Hid (Blk lt (2 * B) N e3) := by
                  have hh := HH.out.1
                  rw [Nat.min_eq_right (by omega)] at hh
                  exact mrg_end HF.out ha (by omega) hh (permIn_refl _ _ _)
                go_wp2
                go_roundw
                case rel => exact ⟨2 * B, e3, by omega, by omega, by congr 1 <;> omega, HS, HF2, HP, HG⟩
                case measure => simp [intOf]; omega
        · have z2 : ¬ (B : Int) < (N : Int) := by omega
          have hfin : SortedIn lt 0 N e2 := by
            have := HF.out 0 0 (by omega)
            rwa [Nat.min_eq_right (by omega)] at this
          have HFIN : Hid (SortedIn lt 0 N e2) := hfin
          clear hfin
          go_wp2
          go_end0
          exact ⟨rfl, e2, HS.out, HFIN.out, HP.out, grown_then (grown_below hB0) HG.out⟩
end
end Go.Proofs.YtihkeblhidflpaaGreatDoor
