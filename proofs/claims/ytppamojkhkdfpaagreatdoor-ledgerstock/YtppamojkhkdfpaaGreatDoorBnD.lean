/- Rows that slices own, cell by cell. Versions, books, and how they lie in memory. What has turned: one block, and a slice's own row. Events that a slice holds. -/
import Derived.Test.YtppamojkhkdfpaaGreatDoorBnA
import Derived.Test.YtppamojkhkdfpaaGreatDoorBnB
import Derived.Test.YtppamojkhkdfpaaGreatDoorBnC
namespace Go.Proofs.YtppamojkhkdfpaaGreatDoor
open Go.RowKit
/-- Rows of parts of one length, laid flat. -/
theorem flat_len {α : Type} (f : α → List Value) (m : Nat) (hf : ∀ x, (f x).length = m) : ∀ l : List α, (l.flatMap f).length = l.length * m
  | [] => by simp
  | x :: l => by simp only [List.flatMap_cons, List.length_append, hf, flat_len f m hf l, List.length_cons]; rw [Nat.add_mul, Nat.one_mul, Nat.add_comm]
theorem flat_get {α : Type} (f : α → List Value) (m : Nat) (hf : ∀ x, (f x).length = m) : ∀ (l : List α) (k j : Nat) (hk : k < l.length), j < m → (l.flatMap f)[k * m + j]? = (f l[k])[j]?
  | [], k, j, hk, _ => absurd hk (Nat.not_lt_zero _)
  | x :: l, 0, j, _, hj => by
    rw [List.flatMap_cons, Nat.zero_mul, Nat.zero_add, List.getElem?_append_left (by rw [hf]; exact hj)]; rfl
  | x :: l, k + 1, j, hk, hj => by
    have e : (k + 1) * m + j = m + (k * m + j) := by rw [Nat.add_mul, Nat.one_mul]; omega
    rw [List.flatMap_cons, e, List.getElem?_append_right (by rw [hf]; omega), hf, Nat.add_sub_cancel_left]
    exact flat_get f m hf l k j (by simpa using hk) hj
/-- A cell of a row that a slice owns. -/
theorem own_cell {α : Type} {w : World} {B : Nat} {T : TypeId} {m g n cap : Nat} {f : α → List Value} {l : List α} (hf : ∀ x, (f x).length = m) (h : w.ownsRow B T m (.slice (some ⟨g, 0, none⟩) n cap) n (l.flatMap f)) (k j : Nat) (hk : k < l.length) (hj : j < m) :
    w.cell? ⟨g, k * m + j, none⟩ = (f l[k])[j]? ∧ w.frozen? ⟨g, k * m + j, none⟩ = false := by
  have hl := h.1
  rw [flat_len f m hf] at hl
  rcases h.2 with ⟨hv, _⟩ | ⟨g', cap', cur, hv, _, hg, hn, _, hs, ht⟩
  · cases hv
  · cases hv
    have hlt : k * m + j < (l.flatMap f).length := by
      rw [flat_len f m hf]
      have := Nat.mul_le_mul_right m (show k + 1 ≤ l.length from hk)
      rw [Nat.add_mul, Nat.one_mul] at this
      omega
    have hc : cur[k * m + j]? = (l.flatMap f)[k * m + j]? := by
      rw [← ht, List.getElem?_take_of_lt (by rw [← hl, ← flat_len f m hf]; exact hlt), Array.getElem?_toList]
    refine ⟨?_, ?_⟩
    · simp only [World.cell?, hg]
      rw [show (Option.isSome (none : Option _)) = false from rfl]
      simp only [Bool.false_eq_true, if_false]
      rw [hc, flat_get f m hf l k j hk hj]
    · simp [World.frozen?, hg]
theorem own_count {α : Type} {w : World} {B : Nat} {T : TypeId} {m n : Nat} {v : Value} {f : α → List Value} {l : List α} (hf : ∀ x, (f x).length = m) (hm : 0 < m) (h : w.ownsRow B T m v n (l.flatMap f)) : n = l.length := by
  have hl := h.1
  rw [flat_len f m hf] at hl
  exact (Nat.eq_of_mul_eq_mul_right hm hl).symm
/-- How a slice that owns its row is told. -/
theorem own_form {w : World} {B : Nat} {T : TypeId} {m n : Nat} {v : Value} {xs : List Value} (h : w.ownsRow B T m v n xs) :
    (v = .slice none 0 0 ∧ n = 0 ∧ xs = []) ∨ ∃ g cap, v = .slice (some ⟨g, 0, none⟩) n cap ∧ B ≤ g ∧ g < w.heap.size ∧ n ≤ cap ∧ cap ≤ maxLen := by
  rcases h.2 with ⟨hv, hn⟩ | ⟨g, cap, cur, hv, hB, hg, hn, hm, hs, ht⟩
  · refine Or.inl ⟨hv, hn, ?_⟩
    have := h.1
    rw [hn, Nat.zero_mul] at this
    exact List.length_eq_zero_iff.1 this
  · exact Or.inr ⟨g, cap, hv, hB, (Array.getElem?_eq_some_iff.1 hg).1, hn, hm⟩
theorem own_below {w w' : World} {B b : Nat} {T : TypeId} {m n : Nat} {v : Value} {xs : List Value} (h : w.ownsRow b T m v n xs) (hb : Below w.heap.size w w') (hB : B ≤ b) : w'.ownsRow B T m v n xs := by
  refine ⟨h.1, ?_⟩
  rcases h.2 with hn | ⟨g, cap, cur, hv, hBg, hg, rest⟩
  · exact Or.inl hn
  · refine Or.inr ⟨g, cap, cur, hv, Nat.le_trans hB hBg, ?_, rest⟩
    rw [hb.block g (Array.getElem?_eq_some_iff.1 hg).1]; exact hg
theorem cells_of_list {w : World} {b : Nat} {cs : List Value} {T : TypeId} (hb : b = w.heap.size) : ∀ j u, cs[j]? = some u → (w.alloc (.cells cs.toArray T)).cell? ((⟨b, 0, none⟩ : Addr).add j) = some u := by
  intro j u hj
  subst hb
  rw [Addr.add_lit, Nat.zero_add, World.cell?_alloc_at _ _ _ _ (by rfl)]
  simpa using hj
end Go.Proofs.YtppamojkhkdfpaaGreatDoor
namespace Go.Proofs.YtppamojkhkdfpaaGreatDoor
open Go.RowKit
/-- A version, a book. -/
structure Vr where
  ev : Ev
  fr : Int
  to : Int
  deriving Inhabited
structure Bk where
  vs : List Vr
  n : Int
  g : Int
def evC (e : Ev) : List Value := [.int .i64 e.id, .string e.item, .int .i64 e.kind, .int .i64 e.qty, .int .i64 e.price, .int .i64 e.ofI, .int .i64 e.day]
def vrC (v : Vr) : List Value := [.int .i64 v.ev.id, .string v.ev.item, .int .i64 v.ev.kind, .int .i64 v.ev.qty, .int .i64 v.ev.price, .int .i64 v.ev.ofI, .int .i64 v.ev.day, .int .i64 v.fr, .int .i64 v.to]
def vrV (v : Vr) : Value := .agg #[.int .i64 v.ev.id, .string v.ev.item, .int .i64 v.ev.kind, .int .i64 v.ev.qty, .int .i64 v.ev.price, .int .i64 v.ev.ofI, .int .i64 v.ev.day, .int .i64 v.fr, .int .i64 v.to]
theorem evC_len (e : Ev) : (evC e).length = 7 := rfl
theorem vrC_len (v : Vr) : (vrC v).length = 9 := rfl
theorem evC_one (e : Ev) : ∀ u ∈ evC e, u.oneCell' = true := by
  intro u hu
  simp only [evC, List.mem_cons, List.not_mem_nil, or_false] at hu
  rcases hu with rfl | rfl | rfl | rfl | rfl | rfl | rfl <;> rfl
theorem vrC_one (e : Vr) : ∀ u ∈ vrC e, u.oneCell' = true := by
  intro u hu
  simp only [vrC, List.mem_cons, List.not_mem_nil, or_false] at hu
  rcases hu with rfl | rfl | rfl | rfl | rfl | rfl | rfl | rfl | rfl <;> rfl
end Go.Proofs.YtppamojkhkdfpaaGreatDoor
namespace Go.Proofs.YtppamojkhkdfpaaGreatDoor
open Go.RowKit
/-- Nothing has turned but the book's own two blocks. -/
structure Turned (w w' : World) (pb : Nat) (sv : Value) : Prop where
  os : w'.os = w.os
  tape : w'.tape = w.tape
  output : w'.output = w.output
  size : w.heap.size ≤ w'.heap.size
  block : ∀ k, k < w.heap.size → k ≠ pb → sv.ownBlock ≠ some k → w'.heap[k]? = w.heap[k]?
theorem Turned.of_below {w w' : World} {pb : Nat} {sv : Value} (h : Below w.heap.size w w') : Turned w w' pb sv := ⟨h.os, h.tape, h.output, h.size, fun k hk _ _ => h.block k hk⟩
theorem Turned.refl (w : World) (pb : Nat) (sv : Value) : Turned w w pb sv := .of_below (Below.refl _ _)
theorem Turned.trans {a b c : World} {pb : Nat} {sv sv' : Value} (h : Turned a b pb sv) (h' : Turned b c pb sv') (hf : Fresh a sv sv') : Turned a c pb sv :=
  ⟨h'.os.trans h.os, h'.tape.trans h.tape, h'.output.trans h.output, Nat.le_trans h.size h'.size, fun k hk hp hs =>
    (h'.block k (Nat.lt_of_lt_of_le hk h.size) hp (fun e => by rcases hf k e with h | h; exact hs h; omega)).trans (h.block k hk hp hs)⟩
theorem set_same {w : World} {a : Addr} {v u : Value} (h : w.cell? a = some u) : (w.setCell a v).cell? a = some v := World.cell?_setCell_same w a v h
theorem set_other {w : World} {a b : Addr} {v : Value} (h : a ≠ b) : (w.setCell a v).cell? b = w.cell? b := World.cell?_setCell_other w a b v h
theorem set_frz {w : World} {a b : Addr} {v : Value} : (w.setCell a v).frozen? b = w.frozen? b := by simp
theorem turned_set (w : World) (pb o : Nat) (sv v : Value) : Turned w (w.setCell ⟨pb, o, none⟩ v) pb sv :=
  ⟨rfl, rfl, rfl, by simp [World.setCell], fun k _ hk _ => Below.heap_setCell _ _ _ _ hk⟩
theorem turned_row (w : World) (g o pb : Nat) (sv v : Value) (h : sv.ownBlock = some g) : Turned w (w.setCell ⟨g, o, none⟩ v) pb sv :=
  ⟨rfl, rfl, rfl, by simp [World.setCell], fun k _ _ hk => Below.heap_setCell _ _ _ _ (fun e => hk (by rw [h]; simp [e]))⟩
theorem flatMap_set {α : Type} (f : α → List Value) (m : Nat) (hf : ∀ x, (f x).length = m) (j : Nat) (u : Value) (hj : j < m) (y : α) : ∀ (l : List α) (k : Nat) (hk : k < l.length), f y = (f l[k]).set j u → (l.set k y).flatMap f = (l.flatMap f).set (k * m + j) u
  | [], k, hk, _ => absurd hk (Nat.not_lt_zero _)
  | x :: l, 0, hk, h => by
    simp only [List.set_cons_zero, List.flatMap_cons, Nat.zero_mul, Nat.zero_add]
    rw [List.set_append_left _ _ (by rw [hf]; exact hj), h]; rfl
  | x :: l, k + 1, hk, h => by
    simp only [List.set_cons_succ, List.flatMap_cons]
    have e : (k + 1) * m + j = m + (k * m + j) := by rw [Nat.add_mul, Nat.one_mul]; omega
    rw [List.set_append_right _ _ (by rw [hf]; omega), hf, e, Nat.add_sub_cancel_left, flatMap_set f m hf j u hj y l k (by simpa using hk) h]
/-- One cell of a row that is owned is written. -/
theorem own_set {w : World} {B : Nat} {T : TypeId} {m g n cap : Nat} {xs : List Value} (h : w.ownsRow B T m (.slice (some ⟨g, 0, none⟩) n cap) n xs) (o : Nat) (u : Value) :
    (w.setCell ⟨g, o, none⟩ u).ownsRow B T m (.slice (some ⟨g, 0, none⟩) n cap) n (xs.set o u) := by
  refine ⟨by rw [List.length_set]; exact h.1, ?_⟩
  rcases h.2 with ⟨hv, _⟩ | ⟨g', cap', cur, hv, hB, hg, hn, hm, hs, ht⟩
  · cases hv
  · cases hv
    refine Or.inr ⟨g, cap, cur.setIfInBounds o u, rfl, hB, ?_, hn, hm, by simpa using hs, ?_⟩
    · simp only [World.setCell, Array.getElem?_modify, if_pos, hg, Option.map_some]
      rfl
    · rw [Array.toList_setIfInBounds, List.take_set, ht]
theorem grown_turned {w w' : World} {pb : Nat} {sv : Value} (h : w.grownBy w' sv.ownBlock) : Turned w w' pb sv := ⟨h.os, h.tape, h.output, h.size, fun k hk _ hs => h.block k hk (fun e => hs e.symm)⟩
end Go.Proofs.YtppamojkhkdfpaaGreatDoor
namespace Go.Proofs.YtppamojkhkdfpaaGreatDoor
open Go.RowKit
/-- The slice v holds these events. -/
def EvsAt (w : World) (v : Value) (l : List Ev) : Prop :=
  (v = .slice none 0 0 ∧ l = []) ∨ ∃ g o cap, v = .slice (some ⟨g, o, none⟩) l.length cap ∧ g < w.heap.size ∧ ∀ k j (hk : k < l.length), j < 7 → w.cell? ⟨g, o + k * 7 + j, none⟩ = (evC l[k])[j]?
theorem EvsAt.below {w w' : World} {v : Value} {l : List Ev} (h : EvsAt w v l) (hb : Below w.heap.size w w') : EvsAt w' v l := by
  rcases h with h | ⟨g, o, cap, rfl, hg, hc⟩
  · exact Or.inl h
  · exact Or.inr ⟨g, o, cap, rfl, Nat.lt_of_lt_of_le hg hb.size, fun k j hk hj => (hb.cell (p := ⟨g, o + k * 7 + j, none⟩) hg).trans (hc k j hk hj)⟩
theorem EvsAt.of_own {w : World} {B : Nat} {v : Value} {l : List Ev} (h : w.ownsRow B 44 7 v l.length (l.flatMap evC)) : EvsAt w v l := by
  rcases own_form h with ⟨hv, hn, _⟩ | ⟨g, cap, hv, _, hgl, _⟩
  · exact Or.inl ⟨hv, List.length_eq_zero_iff.1 hn⟩
  · subst hv
    exact Or.inr ⟨g, 0, cap, rfl, hgl, fun k j hk hj => by rw [Nat.zero_add]; exact (own_cell evC_len h k j hk hj).1⟩
noncomputable def rtB (e : Ev) : Bool := @decide (Rt e) (Classical.propDecidable _)
theorem rtB_iff (e : Ev) : rtB e = true ↔ Rt e := by unfold rtB; simp
/-- Events lie behind an address, if there are any. -/
def EvsC (w : World) (ao : Option Addr) (l : List Ev) : Prop := 0 < l.length → ∃ b off, ao = some ⟨b, off, none⟩ ∧ b < w.heap.size ∧ ∀ k (hk : k < l.length) j, j < 7 → w.cell? ⟨b, off + k * 7 + j, none⟩ = (evC l[k])[j]?
theorem EvsC.below {w w' : World} {ao : Option Addr} {l : List Ev} (h : EvsC w ao l) (hb : Below w.heap.size w w') : EvsC w' ao l := fun hp => by
  obtain ⟨b, off, e, hlt, hc⟩ := h hp
  exact ⟨b, off, e, Nat.lt_of_lt_of_le hlt hb.size, fun k hk j hj => (hb.cell (p := ⟨b, off + k * 7 + j, none⟩) hlt).trans (hc k hk j hj)⟩
theorem EvsAt.toC {w : World} {v : Value} {l : List Ev} (h : EvsAt w v l) : ∃ ao cap, v = .slice ao l.length cap ∧ EvsC w ao l := by
  rcases h with ⟨rfl, rfl⟩ | ⟨g, o, cap, rfl, hg, hc⟩
  · exact ⟨none, 0, rfl, fun h => absurd h (Nat.lt_irrefl _)⟩
  · exact ⟨_, cap, rfl, fun _ => ⟨g, o, rfl, hg, fun k hk j hj => hc k j hk hj⟩⟩
end Go.Proofs.YtppamojkhkdfpaaGreatDoor
