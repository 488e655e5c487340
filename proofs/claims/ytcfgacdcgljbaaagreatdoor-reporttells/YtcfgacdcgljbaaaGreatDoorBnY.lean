/- (Written by gen_stable.py.) sort.stable_func, stable. The one stable row of events: those that are alike as they stand. tallymanref.ordered: the stable row. tallymanref.ordered at events that are handed in: the stable row. -/
import Derived.Test.YtcfgacdcgljbaaaGreatDoorSbSym
import Derived.Test.YtcfgacdcgljbaaaGreatDoorStStable
import Derived.Test.YtcfgacdcgljbaaaGreatDoorBnG
import Derived.Test.YtcfgacdcgljbaaaGreatDoorRefOrdered
import Derived.Test.YtcfgacdcgljbaaaGreatDoorBnM
namespace Go.Proofs.YtcfgacdcgljbaaaGreatDoor
open Go.RowKit
open Go.Sort hiding Below
open Go.Shelf
variable {α : Type} [Inhabited α]
section
variable {lt : α → α → Bool} {q : α → α → Prop}
variable {g : Nat} {lb : Array Value} {sf : Nat} {sb : Array Value} {blk N : Nat} {St : World → Array α → Prop}
set_option maxRecDepth 20000 in
set_option maxHeartbeats 8000000 in
theorem sb_stable_any (S : SortsQ lt q g lb sf sb blk N St) (hO : SWO lt) (hN : N ≤ 1000000) (d : Array α) (w : World) (h : St w d) (hq : ∀ s t, s < t → t < N → q d[t]! d[s]!) :
    Calls Tryz.prog 143 #[dV g lb sf sb, .int .i64 N] w (Merges lt St blk 0 N d w) := by
  have hbl := S.blt w d h
  have hsz := S.size w d h
  have hins := fun W e (x y : Nat) (hs : St W e) (hx : x ≤ y) (hy : y ≤ N) (hqq : ∀ s t, x ≤ s → s < t → t < y → q e[t]! e[s]!) => sb_insertion_any S hO e W hs x y hx hy hN hqq
  have hsym := fun W e (x y z : Nat) (hs : St W e) (hx : x < y) (hy : y < z) (hz : z ≤ N) (s1 : SortedIn lt x y e) (s2 : SortedIn lt y z e) (s3 : Ap q x y z e) => sb_sym_any S hO hN (z - x) x y z rfl hx hy hz e W hs s1 s2 s3
  unfold dV at hins hsym ⊢
  obtain ⟨W0, hW0⟩ : ∃ W, W = w.alloc (.cells #[.func (.func g) #[] lb, .func (.func sf) #[] sb] 235) := ⟨_, rfl⟩
  have hB0 : Below w.heap.size w W0 := by rw [hW0]; exact (Below.refl _ _).alloc (Nat.le_refl _) _
  have c0 : W0.cell? ⟨w.heap.size, 0, none⟩ = some (.func (.func g) #[] lb) := by rw [hW0]; simp
  have c1 : W0.cell? ⟨w.heap.size, 1, none⟩ = some (.func (.func sf) #[] sb) := by rw [hW0]; simp
  have HS0 : Hid (St W0 d) := S.below _ _ _ h hB0
  have HW0 : Hid (W0 = _) := hW0
  have HI : Hid _ := hins
  have HM : Hid _ := hsym
  have HQ : Hid (∀ s t, s < t → t < N → q d[t]! d[s]!) := hq
  clear hW0 hins hsym hq
  go_enter Tryz.func143, Tryz.ntmps143
  go_wp2
  rw [← HW0.out]
  go_loopw [5, 6] (fun i j wr => ∃ (a : Nat) (e : Array α), a ≤ N ∧ i = .int .i64 a ∧ j = .int .i64 (a + 20 : Nat) ∧ Hid (St wr e) ∧ Hid (Fst lt a e) ∧ Hid (CrB q N 20 e ∧ ∀ t, a ≤ t → e[t]! = d[t]!) ∧ Hid (PermIn 0 N d e) ∧ Hid (W0.grownBy wr (some blk))) (fun i j _ => 1000001 - (intOf i).toNat)
  case atStart => exact ⟨0, d, Nat.zero_le _, rfl, rfl, HS0, fst_start d, ⟨fun j x _ s t h1 h2 h3 => HQ.out s t (by omega) h3, fun t _ => rfl⟩, permIn_refl _ _ _, grown_refl _ _⟩
  case round =>
    obtain ⟨a, e, ha, rfl, rfl, HS, HF, HC, HP, HG⟩ := hrel
    have HQ2 : Hid (∀ b, b ≤ N → ∀ s t, a ≤ s → s < t → t < b → q e[t]! e[s]!) := fun b hb s t h1 h2 h3 => by rw [HC.out.2 t (by omega), HC.out.2 s h1]; exact HQ.out s t h2 (by omega)
    have cw0 : wr.cell? ⟨w.heap.size, 0, none⟩ = some (.func (.func g) #[] lb) := grown_cell HG.out (by omega) c0
    have cw1 : wr.cell? ⟨w.heap.size, 1, none⟩ = some (.func (.func sf) #[] sb) := grown_cell HG.out (by omega) c1
    have hes := S.size wr e HS.out
    by_cases hb : a + 20 ≤ N
    · have z1 : (a : Int) + 20 ≤ (N : Int) := by omega
      have hc := HI.out wr e a (a + 20) HS.out (by omega) hb (HQ2.out _ hb)
      rw [show ((a + 20 : Nat) : Int) = (a : Int) + 20 from rfl] at hc
      go_wp2_with fail
      refine hc.mono ?_
      rintro e3 w2 ⟨rfl, d2, hs2, hw2, hp2, hg2⟩
      have HS2 : Hid (St w2 d2) := hs2
      have HF2 : Hid (Fst lt (a + 20) d2) := fst_step HF.out hw2 hp2
      have HC2 : Hid (CrB q N 20 d2 ∧ ∀ t, a + 20 ≤ t → d2[t]! = d[t]!) := ⟨fun j x hx => cr_keep (HC.out.1 j x hx) hp2 hb (by omega) (by obtain ⟨⟨k, hk⟩, _⟩ := HF.out; omega), fun t ht => by rw [hp2.2.1 t (Or.inr ht)]; exact HC.out.2 t (by omega)⟩
      have HP2 : Hid (PermIn 0 N d d2) := permIn_trans _ _ _ _ _ HP.out (permIn_mono _ _ _ _ _ _ (by omega) (by omega) (by omega) hp2)
      have HG2 : Hid (W0.grownBy w2 (some blk)) := grown_then HG.out hg2
      clear hs2 hw2 hp2 hg2 hc
      go_wp2
      go_roundw
      case rel => exact ⟨a + 20, d2, hb, by go_num, by go_num, HS2, HF2, HC2, HP2, HG2⟩
      case measure => simp [intOf]; omega
    · have z1 : ¬ (a : Int) + 20 ≤ (N : Int) := by omega
      have hc := HI.out wr e a N HS.out ha (Nat.le_refl _) (HQ2.out _ (Nat.le_refl _))
      go_wp2_with fail
      refine hc.mono ?_
      rintro e3 w2 ⟨rfl, d2, hs2, hw2, hp2, hg2⟩
      have HS2 : Hid (St w2 d2) := hs2
      have HF2 : Hid (Blk lt 20 N d2) := fst_end HF.out ha (by omega) hw2 hp2
      have HC2 : Hid (CrB q N 20 d2) := fun j x hx => by
        by_cases hxa : x ≤ a
        · exact cr_keep (HC.out.1 j x hx) hp2 (Nat.le_refl _) (by omega) (Or.inl hxa)
        · obtain ⟨⟨k, hk⟩, _⟩ := HF.out
          exact fun s t _ h2 h3 => by omega
      have HP2 : Hid (PermIn 0 N d d2) := permIn_trans _ _ _ _ _ HP.out (permIn_mono _ _ _ _ _ _ (by omega) (by omega) (by omega) hp2)
      have HG2 : Hid (W0.grownBy w2 (some blk)) := grown_then HG.out hg2
      clear hs2 hw2 hp2 hg2 hc cw0 cw1
      go_wp2
      go_loopw [4, 5, 6, 7] (fun i4 i5 i6 i7 wr => ∃ (B : Nat) (e : Array α), 0 < B ∧ B ≤ 2000000 ∧ i4 = .int .i64 B ∧ Hid (St wr e) ∧ Hid (Blk lt B N e) ∧ Hid (CrB q N B e) ∧ Hid (PermIn 0 N d e) ∧ Hid (W0.grownBy wr (some blk))) (fun i _ _ _ _ => 2000001 - (intOf i).toNat)
      case atStart => exact ⟨20, d2, by omega, by omega, rfl, HS2, HF2, HC2, HP2, HG2⟩
      case round =>
        clear HS2 HF2 HC2 HP2 HG2 HS HF HC HQ2 HP HG hes
        obtain ⟨B, e2, hB, hB2, rfl, HS, HF, HC, HP, HG⟩ := hrel
        by_cases hb3 : B < N
        · have z2 : (B : Int) < (N : Int) := by omega
          obtain ⟨W1, rfl⟩ : ∃ x, x = wr := ⟨_, rfl⟩
          have e2B : Hid ((2 : Int) * (B : Int) = ((2 * B : Nat) : Int)) := (by omega : (2 : Int) * (B : Int) = ((2 * B : Nat) : Int))
          go_wp2
          go_loopw [5, 6] (fun i j wr => ∃ (a : Nat) (e : Array α), a ≤ N ∧ i = .int .i64 a ∧ j = .int .i64 ((a : Int) + 2 * (B : Int)) ∧ Hid (St wr e) ∧ Hid (Mrg lt B N a e) ∧ Hid (CrM q N B a e) ∧ Hid (PermIn 0 N d e) ∧ Hid (W0.grownBy wr (some blk))) (fun i j _ => 1000001 - (intOf i).toNat)
          case atStart => exact ⟨0, e2, Nat.zero_le _, rfl, by congr 1 <;> omega, HS, mrg_start hB HF.out, crm_start HC.out, HP, HG⟩
          case round =>
            clear HS HF HC HP HG
            obtain ⟨a, e3, ha, rfl, rfl, HS, HF, HC, HP, HG⟩ := hrel
            have cw0 : wr.cell? ⟨w.heap.size, 0, none⟩ = some (.func (.func g) #[] lb) := grown_cell HG.out (by omega) c0
            have cw1 : wr.cell? ⟨w.heap.size, 1, none⟩ = some (.func (.func sf) #[] sb) := grown_cell HG.out (by omega) c1
            have hes := S.size wr e3 HS.out
            have HH : Hid _ := mrg_here HF.out
            by_cases hb4 : a + 2 * B ≤ N
            · have z3 : (a : Int) + 2 * (B : Int) ≤ (N : Int) := by omega
              have hh := HH.out
              rw [Nat.min_eq_left (by omega), Nat.min_eq_left (by omega)] at hh
              have hc := HM.out wr e3 a (a + B) (a + 2 * B) HS.out (by omega) (by omega) hb4 hh.1 hh.2 (crm_ap HC.out HF.out hb4)
              rw [show ((a + B : Nat) : Int) = (a : Int) + B by omega, show ((a + 2 * B : Nat) : Int) = (a : Int) + 2 * (B : Int) by omega] at hc
              clear hh
              go_wp2_with fail
              refine hc.mono ?_
              rintro e4 w2 ⟨rfl, d2, hs2, hw2, hp2, hg2⟩
              have HS2 : Hid (St w2 d2) := hs2
              have HF2 : Hid (Mrg lt B N (a + 2 * B) d2) := mrg_step HF.out hw2 hp2
              have HC2 : Hid (CrM q N B (a + 2 * B) d2) := crm_step HC.out HF.out (by omega) hb4 hp2
              have HP2 : Hid (PermIn 0 N d d2) := permIn_trans _ _ _ _ _ HP.out (permIn_mono _ _ _ _ _ _ (by omega) (by omega) (by omega) hp2)
              have HG2 : Hid (W0.grownBy w2 (some blk)) := grown_then HG.out hg2
              clear hs2 hw2 hp2 hg2 hc
              go_wp2
              go_roundw
              case rel => exact ⟨a + 2 * B, d2, hb4, by congr 1 <;> omega, by congr 1 <;> omega, HS2, HF2, HC2, HP2, HG2⟩
              case measure => simp [intOf]; omega
            · have z3 : ¬ (a : Int) + 2 * (B : Int) ≤ (N : Int) := by omega
              by_cases hm : a + B < N
              · have z4 : (a : Int) + (B : Int) < (N : Int) := by omega
                have hh := HH.out
                rw [Nat.min_eq_left (by omega), Nat.min_eq_right (by omega)] at hh
                have hc := HM.out wr e3 a (a + B) N HS.out (by omega) hm (Nat.le_refl _) hh.1 hh.2 (crm_ap HC.out HF.out (Nat.le_refl _))
                rw [show ((a + B : Nat) : Int) = (a : Int) + B by omega] at hc
                clear hh
                go_wp2_with fail
                refine hc.mono ?_
                rintro e4 w2 ⟨rfl, d2, hs2, hw2, hp2, hg2⟩
                have HS2 : Hid (St w2 d2) := hs2
                have HF2 : Hid (Blk lt (2 * B) N d2) := mrg_end HF.out ha (by omega) hw2 hp2
                have HC2 : Hid (CrB q N (2 * B) d2) := crm_end HC.out HF.out (by omega) (by omega) hp2
                have HP2 : Hid (PermIn 0 N d d2) := permIn_trans _ _ _ _ _ HP.out (permIn_mono _ _ _ _ _ _ (by omega) (by omega) (by omega) hp2)
                have HG2 : Hid (W0.grownBy w2 (some blk)) := grown_then HG.out hg2
                clear hs2 hw2 hp2 hg2 hc
                go_wp2
                go_roundw
                case rel => exact ⟨2 * B, d2, by omega, by omega, by congr 1 <;> omega, HS2, HF2, HC2, HP2, HG2⟩
                case measure => simp [intOf]; omega
              · have z4 : ¬ (a : Int) + (B : Int) < (N : Int) := by omega
                have HF2 : Hid (Blk lt (2 * B) N e3) := by
                  have hh := HH.out.1
                  rw [Nat.min_eq_right (by omega)] at hh
                  exact mrg_end HF.out ha (by omega) hh (permIn_refl _ _ _)
                go_wp2
                go_roundw
                case rel => exact ⟨2 * B, e3, by omega, by omega, by congr 1 <;> omega, HS, HF2, HC.out.1, HP, HG⟩
                case measure => simp [intOf]; omega
        · have z2 : ¬ (B : Int) < (N : Int) := by omega
          have hfin : SortedIn lt 0 N e2 := by
            have := HF.out 0 0 (by omega)
            rwa [Nat.min_eq_right (by omega)] at this
          have HFIN : Hid (SortedIn lt 0 N e2) := hfin
          clear hfin
          go_wp2
          go_end0
          exact ⟨rfl, e2, HS.out, HFIN.out, HP.out, grown_then (grown_below hB0) HG.out⟩
end
end Go.Proofs.YtcfgacdcgljbaaaGreatDoor
namespace Go.Proofs.YtcfgacdcgljbaaaGreatDoor
open Go.RowKit
open Go.Sort hiding Below
open Go.Shelf Go.Lib
/-- The row, with the places at which they stood. -/
def StP (B blk bo n c : Nat) (W : World) (d : Array EvN) : Prop := StE B blk bo n c W (d.map (·.1))
theorem sorts_P {B blk bo n c : Nat} (hbo : bo ≠ blk) (hn : n ≤ 1000000) :
    SortsQ ltP (fun p r : EvN => r.2 < p.2) 100 #[.pointer (some ⟨bo, 0, none⟩)] 177 #[.slice (some ⟨blk, 0, none⟩) n c, typeHandle Tryz.prog 44] blk n (StP B blk bo n c) where
  size W d h := by have := h.size; simpa using this
  blt W d h := StE.lt h
  less W d i j h hi hj hq := by
    rw [less_P hq, ← map_get, ← map_get]
    exact less_any h hn i j hi hj
  swap W d i j h hi hj _ := by
    obtain ⟨W', h1, h2, h3⟩ := swap_any h hbo i j hi hj
    exact ⟨W', h1, by unfold StP; rw [map_swp]; exact h2, h3⟩
  below W W' d h hb := ⟨h.size, own_below h.own hb (Nat.le_refl _), (hb.cell (p := ⟨bo, 0, none⟩) (World.block_lt_of_cell? _ _ h.box)).trans h.box⟩
  eg := enters_of Tryz.func100 (by kernel_rfl) rfl
theorem sorts_P_few {B blk bo n c sf : Nat} {sb : Array Value} (hn : n ≤ 1) :
    SortsQ ltP (fun p r : EvN => r.2 < p.2) 100 #[.pointer (some ⟨bo, 0, none⟩)] sf sb blk n (StP B blk bo n c) where
  size W d h := by have := h.size; simpa using this
  blt W d h := StE.lt h
  less W d i j h hi hj hq := by
    rw [less_P hq, ← map_get, ← map_get]
    exact less_any h (by omega) i j hi hj
  swap W d i j h hi hj hne := absurd (show i = j by omega) hne
  below W W' d h hb := ⟨h.size, own_below h.own hb (Nat.le_refl _), (hb.cell (p := ⟨bo, 0, none⟩) (World.block_lt_of_cell? _ _ h.box)).trans h.box⟩
  eg := enters_of Tryz.func100 (by kernel_rfl) rfl
/-- sort.SliceStable, at a row of events that a box names: the stable row. -/
theorem sliceStable_stl {B blk bo c : Nat} {w : World} {l : List Ev} (h : StE B blk bo l.length c w l.toArray) (hbo : bo ≠ blk) (hn : l.length ≤ 1000000) :
    Calls Tryz.prog 99 #[.iface 59 (.slice (some ⟨blk, 0, none⟩) l.length c), .func (.func 100) #[] #[.pointer (some ⟨bo, 0, none⟩)]] w fun e w' => e = .returned (.tuple #[]) ∧ StE B blk bo l.length c w' (stl l).toArray ∧ w.grownBy w' (some blk) := by
  have hb := entW_below (some ⟨blk, 0, none⟩) l.length c w
  have hz : l.zipIdx.toArray.map (·.1) = l.toArray := by
    simp
  have hE : StP B blk bo l.length c (entW (some ⟨blk, 0, none⟩) l.length c w) l.zipIdx.toArray := by
    unfold StP
    rw [hz]
    exact ⟨h.size, own_below h.own hb (Nat.le_refl _), (hb.cell (p := ⟨bo, 0, none⟩) (World.block_lt_of_cell? _ _ h.box)).trans h.box⟩
  have hq : ∀ s t, s < t → t < l.length → l.zipIdx.toArray[s]!.2 < l.zipIdx.toArray[t]!.2 := fun s t h1 h2 => by
    rw [getElem!_pos _ s (by simp; omega), getElem!_pos _ t (by simpa using h2)]
    simpa using h1
  have fin : ∀ w', (∃ d', StP B blk bo l.length c w' d' ∧ SortedIn ltP 0 l.length d' ∧ PermIn 0 l.length l.zipIdx.toArray d' ∧ (entW (some ⟨blk, 0, none⟩) l.length c w).grownBy w' (some blk)) → StE B blk bo l.length c w' (stl l).toArray ∧ w.grownBy w' (some blk) := fun w' ⟨d', x1, x2, x3, x4⟩ => by
    refine ⟨?_, grown_then (grown_below hb) x4⟩
    have hs : d'.size = l.length := by have := x1.size; simpa using this
    have e1 := stl_of (l := l) (ps := d'.toList) (by have := permP (d := l.zipIdx.toArray) (d' := d') (by simpa using x3); simpa using this) (sortP (by rw [hs]; exact x2))
    have e2 : d'.map (·.1) = (stl l).toArray := by rw [← e1, ← Array.toList_map]
    rw [← e2]
    exact x1
  have run : ∀ (n : Nat) (hn' : n = l.length) (f : Nat) (sb : Array Value) (S : SortsQ ltP (fun p r : EvN => r.2 < p.2) 100 #[.pointer (some ⟨bo, 0, none⟩)] f sb blk l.length (StP B blk bo l.length c)),
      Calls Tryz.prog 143 #[dV 100 #[.pointer (some ⟨bo, 0, none⟩)] f sb, .int .i64 n] (entW (some ⟨blk, 0, none⟩) n c w) fun e w' => e = .returned (.tuple #[]) ∧ (StE B blk bo l.length c w' (stl l).toArray ∧ w.grownBy w' (some blk)) := fun n hn' f sb S => by
    subst hn'
    exact (sb_stable_any S swo_P hn l.zipIdx.toArray _ hE hq).mono fun e w' ⟨x, y⟩ => ⟨x, fin w' y⟩
  rcases Nat.lt_or_ge l.length 2 with h2 | h2
  · have hcase : l.length = 0 ∨ l.length = 1 := by omega
    rcases hcase with h0 | h0
    · rw [h0]
      refine entry_any _ 0 c (by omega) 169 (by kernel_rfl) _ _ w _ ?_
      have := run 0 h0.symm 169 (if swapperK 0 Tryz.svE 25 ≤ 2 then (#[] : Array Value) else #[.slice (some ⟨blk, 0, none⟩) 0 c, typeHandle Tryz.prog 44]) (sorts_P_few (by omega))
      rw [h0] at this
      exact this
    · rw [h0]
      refine entry_any _ 1 c (by omega) 170 (by kernel_rfl) _ _ w _ ?_
      have := run 1 h0.symm 170 (if swapperK 1 Tryz.svE 25 ≤ 2 then (#[] : Array Value) else #[.slice (some ⟨blk, 0, none⟩) 1 c, typeHandle Tryz.prog 44]) (sorts_P_few (by omega))
      rw [h0] at this
      exact this
  · refine entry_any _ l.length c hn 177 (by rw [Tryz.svK _ h2]; kernel_rfl) _ _ w _ ?_
    rw [if_neg (by rw [Tryz.svK _ h2]; omega)]
    exact run l.length rfl _ _ (sorts_P hbo hn)
end Go.Proofs.YtcfgacdcgljbaaaGreatDoor
namespace Go.Proofs.YtcfgacdcgljbaaaGreatDoor
open Go.RowKit
open Go.Sort hiding Below
open Go.Shelf Go.Lib
/-- What ordered answers: the stable row. -/
def OrderedS (l : List Ev) (w : World) : Ending → World → Prop := fun r w' => ∃ v' : Value, r = .returned v' ∧ w'.ownsRow w.heap.size 44 7 v' (stl l).length ((stl l).flatMap evC) ∧ Below w.heap.size w w'
theorem ordered_st {w wa w' : World} {l : List Ev} {blk bo c : Nat} (hb : Below w.heap.size w wa) (hg : w.heap.size ≤ blk) (h : StE w.heap.size blk bo l.length c w' (stl l).toArray) (hgr : wa.grownBy w' (some blk)) : OrderedS l w (.returned (.slice (some ⟨blk, 0, none⟩) l.length c)) w' := by
  refine ⟨_, rfl, ?_, hb.grown hgr hb.size (fun k hk => by cases hk; exact hg)⟩
  have := h.own
  rw [stl_len]
  exact this
set_option maxRecDepth 20000 in
set_option maxHeartbeats 4000000 in
theorem ordered_stl {B : Nat} {v : Value} {l : List Ev} {w : World} (h : w.ownsRow B 44 7 v l.length (l.flatMap evC)) (hl : l.length ≤ 1000000) :
    Calls Tryz.prog 54 #[v] w (OrderedS l w) := by
  obtain ⟨i0, hi, hz0, hz1, hz2⟩ := info_parts Tryz.infoEv
  by_cases hl0 : l = []
  · subst hl0
    have hst : StE w.heap.size w.heap.size (w.heap.size + 1) 0 0 ((w.alloc (.cells #[] 44)).alloc (.cells #[.slice (some ⟨w.heap.size, 0, none⟩) 0 0] 59)) #[] :=
      ⟨rfl, (own_empty w).alloc _, by simp⟩
    have hc := sliceStable_stl (l := []) hst (by omega) (by simp)
    have hb : Below w.heap.size w ((w.alloc (.cells #[] 44)).alloc (.cells #[.slice (some ⟨w.heap.size, 0, none⟩) 0 0] 59)) := ((Below.refl _ _).alloc (Nat.le_refl _) _).alloc (by simp) _
    have fin : ∀ w', StE w.heap.size w.heap.size (w.heap.size + 1) 0 0 w' (stl []).toArray → ((w.alloc (.cells #[] 44)).alloc (.cells #[.slice (some ⟨w.heap.size, 0, none⟩) 0 0] 59)).grownBy w' (some w.heap.size) → OrderedS [] w (.returned (.slice (some ⟨w.heap.size, 0, none⟩) 0 0)) w' := fun w' x1 x4 => ordered_st (l := []) hb (Nat.le_refl _) x1 x4
    have HF : Hid _ := fin
    clear fin hst hb
    have hv : v = .slice none 0 0 ∨ ∃ g cap, v = .slice (some ⟨g, 0, none⟩) 0 cap := by
      rcases own_form h with ⟨hv, hn, hx⟩ | ⟨g, cap, hv, hgB, hgl, _⟩
      · exact Or.inl hv
      · exact Or.inr ⟨g, cap, hv⟩
    rcases hv with rfl | ⟨g, cap, rfl⟩
    all_goals
      go_enter Tryz.func54, Tryz.ntmps54
      go_wp2_with fail
      refine hc.mono ?_
      rintro e w2 ⟨rfl, x1, x4⟩
      have hbx := x1.box
      have HR := HF.out w2 x1 x4
      clear x1 x4 hc
      go_wp2
      go_ret
      exact HR
  · rcases own_form h with ⟨hv, hn, hx⟩ | ⟨g, cap, hv, hgB, hgl, _⟩
    · exact absurd (List.length_eq_zero_iff.1 hn) hl0
    · subst hv
      have hE : (w.alloc (.cells #[] 44)).ownsRow w.heap.size 44 7 (.slice (some ⟨w.heap.size, 0, none⟩) 0 0) 0 [] := own_empty w
      have hnews : ∀ j u, (l.flatMap evC)[j]? = some u → w.cell? ⟨g, j, none⟩ = some u := fun j u hj => by
        have := h.cells (g := g) rfl j u hj
        rw [Addr.add_lit, Nat.zero_add] at this
        exact this
      have HN : Hid _ := hnews
      have HE : Hid _ := hE
      clear hnews hE
      go_enter Tryz.func54, Tryz.ntmps54
      go_wp2_with (first
        | (at_builtin; refine wpList_append_own _ rfl _ _ 59 rfl w.heap.size 44 i0 evZ 7 64 Tryz.underlying59 hi hz0 hz1 hz2 rfl (by decide) _ _ _ rfl HE.out ⟨g, 0, none⟩ l.length cap (l.flatMap evC) rfl ?d0 ?d1 ?d2 ?d3 ?d4 ?d5 ?_)
        | go_in)
      case d0 => have := flat_len evC 7 evC_len l; simpa using this
      case d1 => exact HN.out
      case d2 => exact fun u x _ hx => evC_one x u hx
      case d3 => unfold maxLen; omega
      case d4 => omega
      · intro v' w2 hown2 hgr _
        have hb2 : Below w.heap.size w w2 := ((Below.refl _ _).alloc (Nat.le_refl _) _).grown hgr (by simp) (fun k hk => by cases hk; exact Nat.le_refl _)
        rcases own_form hown2 with ⟨hv, hn, hx⟩ | ⟨g2, cap2, hv, hgB2, hgl2, _⟩
        · exact absurd (List.length_eq_zero_iff.1 hn) hl0
        · subst hv
          obtain ⟨W3, hW3⟩ : ∃ x, x = w2.alloc (.cells #[.slice (some ⟨g2, 0, none⟩) l.length cap2] 59) := ⟨_, rfl⟩
          have hb3 : Below w.heap.size w W3 := by rw [hW3]; exact hb2.alloc hb2.size _
          have hst : StE w.heap.size g2 w2.heap.size l.length cap2 W3 l.toArray := by
            refine ⟨by simp, ?_, ?_⟩
            · rw [hW3]; exact hown2.alloc _
            · rw [hW3]; simp
          have hc := sliceStable_stl hst (by omega) hl
          have HF : Hid (∀ w', StE w.heap.size g2 w2.heap.size l.length cap2 w' (stl l).toArray → W3.grownBy w' (some g2) → OrderedS l w (.returned (.slice (some ⟨g2, 0, none⟩) l.length cap2)) w') := fun w' x1 x4 => ordered_st hb3 hgB2 x1 x4
          clear hst hown2 hgr
          go_wp2_with fail
          rw [← hW3]
          refine hc.mono ?_
          rintro e w4 ⟨rfl, x1, x4⟩
          have hbx := x1.box
          have HR := HF.out w4 x1 x4
          clear x1 x4 hc
          go_wp2
          go_ret
          exact HR
end Go.Proofs.YtcfgacdcgljbaaaGreatDoor
namespace Go.Proofs.YtcfgacdcgljbaaaGreatDoor
open Go.RowKit
open Go.Sort hiding Below
open Go.Shelf Go.Lib
theorem evs_flat {w : World} {g o : Nat} {l : List Ev} (h : ∀ k (hk : k < l.length) j, j < 7 → w.cell? ⟨g, o + k * 7 + j, none⟩ = (evC l[k])[j]?) : ∀ j u, (l.flatMap evC)[j]? = some u → w.cell? ⟨g, o + j, none⟩ = some u := fun j u hj => by
  have hl := flat_len evC 7 evC_len l
  have hj2 : j < l.length * 7 := by
    have := (List.getElem?_eq_some_iff.1 hj).1
    omega
  have hk : j / 7 < l.length := by omega
  have e : j = j / 7 * 7 + j % 7 := by omega
  have h1 := h (j / 7) hk (j % 7) (by omega)
  have h2 := flat_get evC 7 evC_len l (j / 7) (j % 7) hk (by omega)
  rw [← e, hj] at h2
  rw [← h2] at h1
  rw [show o + j = o + j / 7 * 7 + j % 7 by omega]
  exact h1
set_option maxRecDepth 20000 in
set_option maxHeartbeats 4000000 in
theorem ordered_evs (l : List Ev) (ao : Option Addr) (cap : Nat) (w : World) (h : EvsC w ao l) (hl : l.length ≤ 1000000) :
    Calls Tryz.prog 54 #[.slice ao l.length cap] w (OrderedS l w) := by
  obtain ⟨i0, hi, hz0, hz1, hz2⟩ := info_parts Tryz.infoEv
  by_cases hl0 : l = []
  · subst hl0
    have hst : StE w.heap.size w.heap.size (w.heap.size + 1) 0 0 ((w.alloc (.cells #[] 44)).alloc (.cells #[.slice (some ⟨w.heap.size, 0, none⟩) 0 0] 59)) #[] :=
      ⟨rfl, (own_empty w).alloc _, by simp⟩
    have hc := sliceStable_stl (l := []) hst (by omega) (by simp)
    have hb : Below w.heap.size w ((w.alloc (.cells #[] 44)).alloc (.cells #[.slice (some ⟨w.heap.size, 0, none⟩) 0 0] 59)) := ((Below.refl _ _).alloc (Nat.le_refl _) _).alloc (by simp) _
    have fin : ∀ w', StE w.heap.size w.heap.size (w.heap.size + 1) 0 0 w' (stl []).toArray → ((w.alloc (.cells #[] 44)).alloc (.cells #[.slice (some ⟨w.heap.size, 0, none⟩) 0 0] 59)).grownBy w' (some w.heap.size) → OrderedS [] w (.returned (.slice (some ⟨w.heap.size, 0, none⟩) 0 0)) w' := fun w' x1 x4 => ordered_st (l := []) hb (Nat.le_refl _) x1 x4
    have HF : Hid _ := fin
    clear fin hst hb
    simp only [List.length_nil]
    rcases ao with _ | ⟨g⟩
    all_goals
      go_enter Tryz.func54, Tryz.ntmps54
      go_wp2_with fail
      refine hc.mono ?_
      rintro e w2 ⟨rfl, x1, x4⟩
      have hbx := x1.box
      have HR := HF.out w2 x1 x4
      clear x1 x4 hc
      go_wp2
      go_ret
      exact HR
  · obtain ⟨g, o, hao, hgl, hc⟩ := h (List.length_pos_iff.2 hl0)
    · subst hao
      have hE : (w.alloc (.cells #[] 44)).ownsRow w.heap.size 44 7 (.slice (some ⟨w.heap.size, 0, none⟩) 0 0) 0 [] := own_empty w
      have hnews : ∀ j u, (l.flatMap evC)[j]? = some u → w.cell? ⟨g, o + j, none⟩ = some u := fun j u hj => evs_flat hc j u hj
      have HN : Hid _ := hnews
      have HE : Hid _ := hE
      clear hnews hE
      go_enter Tryz.func54, Tryz.ntmps54
      go_wp2_with (first
        | (at_builtin; refine wpList_append_own _ rfl _ _ 59 rfl w.heap.size 44 i0 evZ 7 64 Tryz.underlying59 hi hz0 hz1 hz2 rfl (by decide) _ _ _ rfl HE.out ⟨g, o, none⟩ l.length cap (l.flatMap evC) rfl ?d0 ?d1 ?d2 ?d3 ?d4 ?d5 ?_)
        | go_in)
      case d0 => have := flat_len evC 7 evC_len l; simpa using this
      case d1 => exact HN.out
      case d2 => exact fun u x _ hx => evC_one x u hx
      case d3 => unfold maxLen; omega
      case d4 => omega
      · intro v' w2 hown2 hgr _
        have hb2 : Below w.heap.size w w2 := ((Below.refl _ _).alloc (Nat.le_refl _) _).grown hgr (by simp) (fun k hk => by cases hk; exact Nat.le_refl _)
        rcases own_form hown2 with ⟨hv, hn, hx⟩ | ⟨g2, cap2, hv, hgB2, hgl2, _⟩
        · exact absurd (List.length_eq_zero_iff.1 hn) hl0
        · subst hv
          obtain ⟨W3, hW3⟩ : ∃ x, x = w2.alloc (.cells #[.slice (some ⟨g2, 0, none⟩) l.length cap2] 59) := ⟨_, rfl⟩
          have hb3 : Below w.heap.size w W3 := by rw [hW3]; exact hb2.alloc hb2.size _
          have hst : StE w.heap.size g2 w2.heap.size l.length cap2 W3 l.toArray := by
            refine ⟨by simp, ?_, ?_⟩
            · rw [hW3]; exact hown2.alloc _
            · rw [hW3]; simp
          have hc := sliceStable_stl hst (by omega) hl
          have HF : Hid (∀ w', StE w.heap.size g2 w2.heap.size l.length cap2 w' (stl l).toArray → W3.grownBy w' (some g2) → OrderedS l w (.returned (.slice (some ⟨g2, 0, none⟩) l.length cap2)) w') := fun w' x1 x4 => ordered_st hb3 hgB2 x1 x4
          clear hst hown2 hgr
          go_wp2_with fail
          rw [← hW3]
          refine hc.mono ?_
          rintro e w4 ⟨rfl, x1, x4⟩
          have hbx := x1.box
          have HR := HF.out w4 x1 x4
          clear x1 x4 hc
          go_wp2
          go_ret
          exact HR
end Go.Proofs.YtcfgacdcgljbaaaGreatDoor
