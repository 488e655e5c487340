/- The one stable row of events: those that are alike as they stand. -/
import Derived.Test.YtppamojkhkdfpaaDoorSbStable
import Derived.Test.YtppamojkhkdfpaaDoorStOrder
import Derived.Test.YtppamojkhkdfpaaDoorRefOrdered
namespace Go.Proofs.YtppamojkhkdfpaaDoor
open Go.RowKit
open Go.Sort hiding Below
open Go.Shelf Go.Lib
/-- The row, with the places at which they stood. -/
def StP (B blk bo n c : Nat) (W : World) (d : Array EvN) : Prop := StE B blk bo n c W (d.map (·.1))
theorem sorts_P {B blk bo n c : Nat} (hbo : bo ≠ blk) (hn : n ≤ 1000000) :
    SortsQ ltP (fun p r : EvN => r.2 < p.2) 29 #[.pointer (some ⟨bo, 0, none⟩)] 76 #[.slice (some ⟨blk, 0, none⟩) n c, typeHandle Tryd.prog 24] blk n (StP B blk bo n c) where
  size W d h := by have := h.size; simpa using this
  blt W d h := StE.lt h
  less W d i j h hi hj hq := by
    rw [less_P hq, ← map_get, ← map_get]
    exact less_any h hn i j hi hj
  swap W d i j h hi hj _ := by
    obtain ⟨W', h1, h2, h3⟩ := swap_any h hbo i j hi hj
    exact ⟨W', h1, by unfold StP; rw [map_swp]; exact h2, h3⟩
  below W W' d h hb := ⟨h.size, own_below h.own hb (Nat.le_refl _), (hb.cell (p := ⟨bo, 0, none⟩) (World.block_lt_of_cell? _ _ h.box)).trans h.box⟩
  eg := enters_of Tryd.func29 (by kernel_rfl) rfl
theorem sorts_P_few {B blk bo n c sf : Nat} {sb : Array Value} (hn : n ≤ 1) :
    SortsQ ltP (fun p r : EvN => r.2 < p.2) 29 #[.pointer (some ⟨bo, 0, none⟩)] sf sb blk n (StP B blk bo n c) where
  size W d h := by have := h.size; simpa using this
  blt W d h := StE.lt h
  less W d i j h hi hj hq := by
    rw [less_P hq, ← map_get, ← map_get]
    exact less_any h (by omega) i j hi hj
  swap W d i j h hi hj hne := absurd (show i = j by omega) hne
  below W W' d h hb := ⟨h.size, own_below h.own hb (Nat.le_refl _), (hb.cell (p := ⟨bo, 0, none⟩) (World.block_lt_of_cell? _ _ h.box)).trans h.box⟩
  eg := enters_of Tryd.func29 (by kernel_rfl) rfl
/-- sort.SliceStable, at a row of events that a box names: the stable row. -/
theorem sliceStable_stl {B blk bo c : Nat} {w : World} {l : List Ev} (h : StE B blk bo l.length c w l.toArray) (hbo : bo ≠ blk) (hn : l.length ≤ 1000000) :
    Calls Tryd.prog 28 #[.iface 22 (.slice (some ⟨blk, 0, none⟩) l.length c), .func (.func 29) #[] #[.pointer (some ⟨bo, 0, none⟩)]] w fun e w' => e = .returned (.tuple #[]) ∧ StE B blk bo l.length c w' (stl l).toArray ∧ w.grownBy w' (some blk) := by
  have hb := entW_below (some ⟨blk, 0, none⟩) l.length c w
  have hz : l.zipIdx.toArray.map (·.1) = l.toArray := by
    simp
  have hE : StP B blk bo l.length c (entW (some ⟨blk, 0, none⟩) l.length c w) l.zipIdx.toArray := by
    unfold StP
    rw [hz]
    exact ⟨h.size, own_below h.own hb (Nat.le_refl _), (hb.cell (p := ⟨bo, 0, none⟩) (World.block_lt_of_cell? _ _ h.box)).trans h.box⟩
  have hq : ∀ s t, s < t → t < l.length → l.zipIdx.toArray[s]!.2 < l.zipIdx.toArray[t]!.2 := fun s t h1 h2 => by
    rw [getElem!_pos _ s (by simp; omega), getElem!_pos _ t (by simpa using h2)]
    simpa using h1
  have fin : ∀ w', (∃ d', StP B blk bo l.length c w' d' ∧ SortedIn ltP 0 l.length d' ∧ PermIn 0 l.length l.zipIdx.toArray d' ∧ (entW (some ⟨blk, 0, none⟩) l.length c w).grownBy w' (some blk)) → StE B blk bo l.length c w' (stl l).toArray ∧ w.grownBy w' (some blk) := fun w' ⟨d', x1, x2, x3, x4⟩ => by
    refine ⟨?_, grown_then (grown_below hb) x4⟩
    have hs : d'.size = l.length := by have := x1.size; simpa using this
    have e1 := stl_of (l := l) (ps := d'.toList) (by have := permP (d := l.zipIdx.toArray) (d' := d') (by simpa using x3); simpa using this) (sortP (by rw [hs]; exact x2))
    have e2 : d'.map (·.1) = (stl l).toArray := by rw [← e1, ← Array.toList_map]
    rw [← e2]
    exact x1
  have run : ∀ (n : Nat) (hn' : n = l.length) (f : Nat) (sb : Array Value) (S : SortsQ ltP (fun p r : EvN => r.2 < p.2) 29 #[.pointer (some ⟨bo, 0, none⟩)] f sb blk l.length (StP B blk bo l.length c)),
      Calls Tryd.prog 52 #[dV 29 #[.pointer (some ⟨bo, 0, none⟩)] f sb, .int .i64 n] (entW (some ⟨blk, 0, none⟩) n c w) fun e w' => e = .returned (.tuple #[]) ∧ (StE B blk bo l.length c w' (stl l).toArray ∧ w.grownBy w' (some blk)) := fun n hn' f sb S => by
    subst hn'
    exact (sb_stable_any S swo_P hn l.zipIdx.toArray _ hE hq).mono fun e w' ⟨x, y⟩ => ⟨x, fin w' y⟩
  rcases Nat.lt_or_ge l.length 2 with h2 | h2
  · have hcase : l.length = 0 ∨ l.length = 1 := by omega
    rcases hcase with h0 | h0
    · rw [h0]
      refine entry_any _ 0 c (by omega) 68 (by kernel_rfl) _ _ w _ ?_
      have := run 0 h0.symm 68 (if swapperK 0 Tryd.svE 25 ≤ 2 then (#[] : Array Value) else #[.slice (some ⟨blk, 0, none⟩) 0 c, typeHandle Tryd.prog 24]) (sorts_P_few (by omega))
      rw [h0] at this
      exact this
    · rw [h0]
      refine entry_any _ 1 c (by omega) 69 (by kernel_rfl) _ _ w _ ?_
      have := run 1 h0.symm 69 (if swapperK 1 Tryd.svE 25 ≤ 2 then (#[] : Array Value) else #[.slice (some ⟨blk, 0, none⟩) 1 c, typeHandle Tryd.prog 24]) (sorts_P_few (by omega))
      rw [h0] at this
      exact this
  · refine entry_any _ l.length c hn 76 (by rw [Tryd.svK _ h2]; kernel_rfl) _ _ w _ ?_
    rw [if_neg (by rw [Tryd.svK _ h2]; omega)]
    exact run l.length rfl _ _ (sorts_P hbo hn)
end Go.Proofs.YtppamojkhkdfpaaDoor
