/- What has turned: one block, and a slice's own row. -/
import Derived.Test.YtcfgacdcgljbaaaGreatDoorBookBase
import Derived.Test.YtcfgacdcgljbaaaGreatDoorBnG
namespace Go.Proofs.YtcfgacdcgljbaaaGreatDoor
open Go.RowKit
/-- Nothing has turned but the book's own two blocks. -/
structure Turned (w w' : World) (pb : Nat) (sv : Value) : Prop where
  os : w'.os = w.os
  tape : w'.tape = w.tape
  output : w'.output = w.output
  size : w.heap.size ≤ w'.heap.size
  block : ∀ k, k < w.heap.size → k ≠ pb → sv.ownBlock ≠ some k → w'.heap[k]? = w.heap[k]?
theorem Turned.of_below {w w' : World} {pb : Nat} {sv : Value} (h : Below w.heap.size w w') : Turned w w' pb sv := ⟨h.os, h.tape, h.output, h.size, fun k hk _ _ => h.block k hk⟩
theorem Turned.refl (w : World) (pb : Nat) (sv : Value) : Turned w w pb sv := .of_below (Below.refl _ _)
theorem Turned.trans {a b c : World} {pb : Nat} {sv sv' : Value} (h : Turned a b pb sv) (h' : Turned b c pb sv') (hf : Fresh a sv sv') : Turned a c pb sv :=
  ⟨h'.os.trans h.os, h'.tape.trans h.tape, h'.output.trans h.output, Nat.le_trans h.size h'.size, fun k hk hp hs =>
    (h'.block k (Nat.lt_of_lt_of_le hk h.size) hp (fun e => by rcases hf k e with h | h; exact hs h; omega)).trans (h.block k hk hp hs)⟩
theorem set_same {w : World} {a : Addr} {v u : Value} (h : w.cell? a = some u) : (w.setCell a v).cell? a = some v := World.cell?_setCell_same w a v h
theorem set_other {w : World} {a b : Addr} {v : Value} (h : a ≠ b) : (w.setCell a v).cell? b = w.cell? b := World.cell?_setCell_other w a b v h
theorem set_frz {w : World} {a b : Addr} {v : Value} : (w.setCell a v).frozen? b = w.frozen? b := by simp
theorem turned_set (w : World) (pb o : Nat) (sv v : Value) : Turned w (w.setCell ⟨pb, o, none⟩ v) pb sv :=
  ⟨rfl, rfl, rfl, by simp [World.setCell], fun k _ hk _ => Below.heap_setCell _ _ _ _ hk⟩
theorem turned_row (w : World) (g o pb : Nat) (sv v : Value) (h : sv.ownBlock = some g) : Turned w (w.setCell ⟨g, o, none⟩ v) pb sv :=
  ⟨rfl, rfl, rfl, by simp [World.setCell], fun k _ _ hk => Below.heap_setCell _ _ _ _ (fun e => hk (by rw [h]; simp [e]))⟩
theorem flatMap_set {α : Type} (f : α → List Value) (m : Nat) (hf : ∀ x, (f x).length = m) (j : Nat) (u : Value) (hj : j < m) (y : α) : ∀ (l : List α) (k : Nat) (hk : k < l.length), f y = (f l[k]).set j u → (l.set k y).flatMap f = (l.flatMap f).set (k * m + j) u
  | [], k, hk, _ => absurd hk (Nat.not_lt_zero _)
  | x :: l, 0, hk, h => by
    simp only [List.set_cons_zero, List.flatMap_cons, Nat.zero_mul, Nat.zero_add]
    rw [List.set_append_left _ _ (by rw [hf]; exact hj), h]; rfl
  | x :: l, k + 1, hk, h => by
    simp only [List.set_cons_succ, List.flatMap_cons]
    have e : (k + 1) * m + j = m + (k * m + j) := by rw [Nat.add_mul, Nat.one_mul]; omega
    rw [List.set_append_right _ _ (by rw [hf]; omega), hf, e, Nat.add_sub_cancel_left, flatMap_set f m hf j u hj y l k (by simpa using hk) h]
/-- One cell of a row that is owned is written. -/
theorem own_set {w : World} {B : Nat} {T : TypeId} {m g n cap : Nat} {xs : List Value} (h : w.ownsRow B T m (.slice (some ⟨g, 0, none⟩) n cap) n xs) (o : Nat) (u : Value) :
    (w.setCell ⟨g, o, none⟩ u).ownsRow B T m (.slice (some ⟨g, 0, none⟩) n cap) n (xs.set o u) := by
  refine ⟨by rw [List.length_set]; exact h.1, ?_⟩
  rcases h.2 with ⟨hv, _⟩ | ⟨g', cap', cur, hv, hB, hg, hn, hm, hs, ht⟩
  · cases hv
  · cases hv
    refine Or.inr ⟨g, cap, cur.setIfInBounds o u, rfl, hB, ?_, hn, hm, by simpa using hs, ?_⟩
    · simp only [World.setCell, Array.getElem?_modify, if_pos, hg, Option.map_some]
      rfl
    · rw [Array.toList_setIfInBounds, List.take_set, ht]
theorem grown_turned {w w' : World} {pb : Nat} {sv : Value} (h : w.grownBy w' sv.ownBlock) : Turned w w' pb sv := ⟨h.os, h.tape, h.output, h.size, fun k hk _ hs => h.block k hk (fun e => hs e.symm)⟩
end Go.Proofs.YtcfgacdcgljbaaaGreatDoor
