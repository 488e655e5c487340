/- Rows that slices own, cell by cell. Versions, books, and how they lie in memory. append onto a slice that owns its row: its row is the old one, or new. What has turned: one block, and a slice's own row. The walk of (*book.Book).those, and of the closures that look at versions. -/
import Derived.Test.YtcfgacdcgljbaaaGreatDoorBnA
import Derived.Test.YtcfgacdcgljbaaaGreatDoorBnB
namespace Go.Proofs.YtcfgacdcgljbaaaGreatDoor
open Go.RowKit
/-- Rows of parts of one length, laid flat. -/
theorem flat_len {α : Type} (f : α → List Value) (m : Nat) (hf : ∀ x, (f x).length = m) : ∀ l : List α, (l.flatMap f).length = l.length * m
  | [] => by simp
  | x :: l => by simp only [List.flatMap_cons, List.length_append, hf, flat_len f m hf l, List.length_cons]; rw [Nat.add_mul, Nat.one_mul, Nat.add_comm]
theorem flat_get {α : Type} (f : α → List Value) (m : Nat) (hf : ∀ x, (f x).length = m) : ∀ (l : List α) (k j : Nat) (hk : k < l.length), j < m → (l.flatMap f)[k * m + j]? = (f l[k])[j]?
  | [], k, j, hk, _ => absurd hk (Nat.not_lt_zero _)
  | x :: l, 0, j, _, hj => by
    rw [List.flatMap_cons, Nat.zero_mul, Nat.zero_add, List.getElem?_append_left (by rw [hf]; exact hj)]; rfl
  | x :: l, k + 1, j, hk, hj => by
    have e : (k + 1) * m + j = m + (k * m + j) := by rw [Nat.add_mul, Nat.one_mul]; omega
    rw [List.flatMap_cons, e, List.getElem?_append_right (by rw [hf]; omega), hf, Nat.add_sub_cancel_left]
    exact flat_get f m hf l k j (by simpa using hk) hj
/-- A cell of a row that a slice owns. -/
theorem own_cell {α : Type} {w : World} {B : Nat} {T : TypeId} {m g n cap : Nat} {f : α → List Value} {l : List α} (hf : ∀ x, (f x).length = m) (h : w.ownsRow B T m (.slice (some ⟨g, 0, none⟩) n cap) n (l.flatMap f)) (k j : Nat) (hk : k < l.length) (hj : j < m) :
    w.cell? ⟨g, k * m + j, none⟩ = (f l[k])[j]? ∧ w.frozen? ⟨g, k * m + j, none⟩ = false := by
  have hl := h.1
  rw [flat_len f m hf] at hl
  rcases h.2 with ⟨hv, _⟩ | ⟨g', cap', cur, hv, _, hg, hn, _, hs, ht⟩
  · cases hv
  · cases hv
    have hlt : k * m + j < (l.flatMap f).length := by
      rw [flat_len f m hf]
      have := Nat.mul_le_mul_right m (show k + 1 ≤ l.length from hk)
      rw [Nat.add_mul, Nat.one_mul] at this
      omega
    have hc : cur[k * m + j]? = (l.flatMap f)[k * m + j]? := by
      rw [← ht, List.getElem?_take_of_lt (by rw [← hl, ← flat_len f m hf]; exact hlt), Array.getElem?_toList]
    refine ⟨?_, ?_⟩
    · simp only [World.cell?, hg]
      rw [show (Option.isSome (none : Option _)) = false from rfl]
      simp only [Bool.false_eq_true, if_false]
      rw [hc, flat_get f m hf l k j hk hj]
    · simp [World.frozen?, hg]
theorem own_count {α : Type} {w : World} {B : Nat} {T : TypeId} {m n : Nat} {v : Value} {f : α → List Value} {l : List α} (hf : ∀ x, (f x).length = m) (hm : 0 < m) (h : w.ownsRow B T m v n (l.flatMap f)) : n = l.length := by
  have hl := h.1
  rw [flat_len f m hf] at hl
  exact (Nat.eq_of_mul_eq_mul_right hm hl).symm
/-- How a slice that owns its row is told. -/
theorem own_form {w : World} {B : Nat} {T : TypeId} {m n : Nat} {v : Value} {xs : List Value} (h : w.ownsRow B T m v n xs) :
    (v = .slice none 0 0 ∧ n = 0 ∧ xs = []) ∨ ∃ g cap, v = .slice (some ⟨g, 0, none⟩) n cap ∧ B ≤ g ∧ g < w.heap.size ∧ n ≤ cap ∧ cap ≤ maxLen := by
  rcases h.2 with ⟨hv, hn⟩ | ⟨g, cap, cur, hv, hB, hg, hn, hm, hs, ht⟩
  · refine Or.inl ⟨hv, hn, ?_⟩
    have := h.1
    rw [hn, Nat.zero_mul] at this
    exact List.length_eq_zero_iff.1 this
  · exact Or.inr ⟨g, cap, hv, hB, (Array.getElem?_eq_some_iff.1 hg).1, hn, hm⟩
theorem own_below {w w' : World} {B b : Nat} {T : TypeId} {m n : Nat} {v : Value} {xs : List Value} (h : w.ownsRow b T m v n xs) (hb : Below w.heap.size w w') (hB : B ≤ b) : w'.ownsRow B T m v n xs := by
  refine ⟨h.1, ?_⟩
  rcases h.2 with hn | ⟨g, cap, cur, hv, hBg, hg, rest⟩
  · exact Or.inl hn
  · refine Or.inr ⟨g, cap, cur, hv, Nat.le_trans hB hBg, ?_, rest⟩
    rw [hb.block g (Array.getElem?_eq_some_iff.1 hg).1]; exact hg
theorem cells_of_list {w : World} {b : Nat} {cs : List Value} {T : TypeId} (hb : b = w.heap.size) : ∀ j u, cs[j]? = some u → (w.alloc (.cells cs.toArray T)).cell? ((⟨b, 0, none⟩ : Addr).add j) = some u := by
  intro j u hj
  subst hb
  rw [Addr.add_lit, Nat.zero_add, World.cell?_alloc_at _ _ _ _ (by rfl)]
  simpa using hj
end Go.Proofs.YtcfgacdcgljbaaaGreatDoor
namespace Go.Proofs.YtcfgacdcgljbaaaGreatDoor
open Go.RowKit
/-- A version, a book. -/
structure Vr where
  ev : Ev
  fr : Int
  to : Int
  deriving Inhabited
structure Bk where
  vs : List Vr
  n : Int
  g : Int
def evC (e : Ev) : List Value := [.int .i64 e.id, .string e.item, .int .i64 e.kind, .int .i64 e.qty, .int .i64 e.price, .int .i64 e.ofI, .int .i64 e.day]
def vrC (v : Vr) : List Value := [.int .i64 v.ev.id, .string v.ev.item, .int .i64 v.ev.kind, .int .i64 v.ev.qty, .int .i64 v.ev.price, .int .i64 v.ev.ofI, .int .i64 v.ev.day, .int .i64 v.fr, .int .i64 v.to]
def vrV (v : Vr) : Value := .agg #[.int .i64 v.ev.id, .string v.ev.item, .int .i64 v.ev.kind, .int .i64 v.ev.qty, .int .i64 v.ev.price, .int .i64 v.ev.ofI, .int .i64 v.ev.day, .int .i64 v.fr, .int .i64 v.to]
theorem evC_len (e : Ev) : (evC e).length = 7 := rfl
theorem vrC_len (v : Vr) : (vrC v).length = 9 := rfl
theorem evC_one (e : Ev) : ∀ u ∈ evC e, u.oneCell' = true := by
  intro u hu
  simp only [evC, List.mem_cons, List.not_mem_nil, or_false] at hu
  rcases hu with rfl | rfl | rfl | rfl | rfl | rfl | rfl <;> rfl
theorem vrC_one (e : Vr) : ∀ u ∈ vrC e, u.oneCell' = true := by
  intro u hu
  simp only [vrC, List.mem_cons, List.not_mem_nil, or_false] at hu
  rcases hu with rfl | rfl | rfl | rfl | rfl | rfl | rfl | rfl | rfl <;> rfl
end Go.Proofs.YtcfgacdcgljbaaaGreatDoor
namespace Go.Proofs.YtcfgacdcgljbaaaGreatDoor
open Go.RowKit
/-- A slice's row is the old one, or new. -/
def Fresh (w : World) (sv sv' : Value) : Prop := ∀ k, sv'.ownBlock = some k → sv.ownBlock = some k ∨ w.heap.size ≤ k
theorem Fresh.refl (w : World) (sv : Value) : Fresh w sv sv := fun _ h => Or.inl h
theorem Fresh.trans {w w' : World} {a b c : Value} (h : Fresh w a b) (h' : Fresh w' b c) (hs : w.heap.size ≤ w'.heap.size) : Fresh w a c := fun k hk => by
  rcases h' k hk with h1 | h1
  · exact h k h1
  · exact Or.inr (Nat.le_trans hs h1)
theorem Fresh.grow {w w' : World} {a b : Value} (h : Fresh w' a b) (hs : w.heap.size ≤ w'.heap.size) : Fresh w a b := fun k hk => by
  rcases h k hk with h1 | h1
  · exact Or.inl h1
  · exact Or.inr (Nat.le_trans hs h1)
section
variable {P : Program} (w : World)
theorem append_fresh (base : Nat) (t ty e : TypeId) (i : TypeInfo) (z : Value) (size bytes : Nat) (ht : P.underlying t = some (.slice e)) (hi : P.info? e = some i) (hz : i.zero = some z)
    (hsize : i.size = size) (hby : i.bytes = bytes) (v : Value) (n : Nat) (xs : List Value) (hown : w.ownsRow base e size v n xs)
    (a : Addr) (m c : Nat) (news : List Value) (hl : news.length = m * size) (hnews : ∀ j u, news[j]? = some u → w.cell? (a.add j) = some u) (h1 : ∀ u ∈ news, u.oneCell' = true)
    (h63 : n + m ≤ maxLen) (hbytes : (n + m) * bytes ≤ 140737488355328) (hm : 0 < m) {v' : Value} {w' : World} (hr : (Builtin.append_ #[t, t] ty #[v, .slice (some a) m c]).run P w = .ok v' w') : Fresh w v v' := by
  subst hsize
  subst hby
  have hsmall : n + m ≤ 9223372036854775807 := by simp only [maxLen] at h63; omega
  rcases hown.2 with ⟨rfl, rfl⟩ | ⟨g, cap, cur, rfl, hbg, hg, hnc, hcm, hcs, htake⟩
  · have hr2 := run_append_nil (P := P) w t ty e i z ht hi hz a m c news hl hnews (by omega) (by omega) (by have hb := hbytes; simp only [Nat.zero_add] at hb; omega)
    rw [hr2] at hr
    cases hr
    intro k hk
    simp [Value.ownBlock] at hk
    exact Or.inr (by omega)
  · by_cases hroom : n + m ≤ cap
    · have hfit : n * i.size + news.length ≤ cur.size := by rw [hl, hcs, ← Nat.add_mul]; exact Nat.mul_le_mul_right _ hroom
      have hr2 := run_append_room (P := P) w t ty e i ht hi g n cap cur hg a m c news hl hnews h1 hroom hfit
      rw [hr2] at hr
      cases hr
      exact fun k hk => Or.inl (by simpa [Value.ownBlock] using hk)
    · have holds : ∀ j u, xs[j]? = some u → w.cell? ((⟨g, 0, none⟩ : Addr).add j) = some u := hown.cells (g := g) rfl
      have hr2 := run_append_grow (P := P) w t ty e i z ht hi hz ⟨g, 0, none⟩ n cap xs hown.1 holds a m c news hl hnews (by omega) (by omega) (growslice_fits (by omega) hbytes)
      rw [hr2] at hr
      cases hr
      intro k hk
      simp [Value.ownBlock] at hk
      exact Or.inr (by omega)
theorem wpList_append_new {ops : Array Oper} {rest : List Oper} {o : Oper} {a : Act} {Q : Exit → Act → World → Prop} (hgd : o.guard = none) (s x : Operand) (t : TypeId)
    (ho : o.op = .call { callee := .builtin .append, args := #[s, x], argTypes := #[t, t] })
    (base : Nat) (e : TypeId) (i : TypeInfo) (z : Value) (size bytes : Nat) (ht : P.underlying t = some (.slice e)) (hi : P.info? e = some i) (hz : i.zero = some z)
    (hsize : i.size = size) (hby : i.bytes = bytes) (hzs : z.cells.size = size) (hsz : 0 < size)
    (v : Value) (n : Nat) (xs : List Value) (hs : a.eval s = v) (hown : w.ownsRow base e size v n xs)
    (ad : Addr) (m c : Nat) (news : List Value) (hx : a.eval x = .slice (some ad) m c) (hl : news.length = m * size) (hnews : ∀ j u, news[j]? = some u → w.cell? (ad.add j) = some u) (h1 : ∀ u ∈ news, u.oneCell' = true)
    (h63 : n + m ≤ maxLen) (hbytes : (n + m) * bytes ≤ 140737488355328) (hbase : base ≤ w.heap.size) (hm : 0 < m)
    (h : ∀ v' w', w'.ownsRow base e size v' (n + m) (xs ++ news) → w.grownBy w' v.ownBlock → Fresh w v v' → wpList P ops Q rest (a.put o.dst v') w') : wpList P ops Q (o :: rest) a w :=
  wpList_plain hgd fun _ hK => by
    obtain ⟨v', w', hr, h2, h3, h4⟩ := run_append_own (P := P) w base t o.type e i z size bytes ht hi hz hsize hby hzs hsz v n xs hown ad m c news hl hnews h1 h63 hbytes hbase
    have hf := append_fresh w base t o.type e i z size bytes ht hi hz hsize hby v n xs hown ad m c news hl hnews h1 h63 hbytes hm hr
    unfold Oper.wp execOp
    simp only [ho, resolve, invoke, builtin, Sem.run_bind, Sem.run_pure, Result.andThen_ok, List.map_toArray, List.map_cons, List.map_nil, hs, hx, hr]
    exact hK _ _ (h v' w' h2 h3 hf)
end
end Go.Proofs.YtcfgacdcgljbaaaGreatDoor
namespace Go.Proofs.YtcfgacdcgljbaaaGreatDoor
open Go.RowKit
/-- Nothing has turned but the book's own two blocks. -/
structure Turned (w w' : World) (pb : Nat) (sv : Value) : Prop where
  os : w'.os = w.os
  tape : w'.tape = w.tape
  output : w'.output = w.output
  size : w.heap.size ≤ w'.heap.size
  block : ∀ k, k < w.heap.size → k ≠ pb → sv.ownBlock ≠ some k → w'.heap[k]? = w.heap[k]?
theorem Turned.of_below {w w' : World} {pb : Nat} {sv : Value} (h : Below w.heap.size w w') : Turned w w' pb sv := ⟨h.os, h.tape, h.output, h.size, fun k hk _ _ => h.block k hk⟩
theorem Turned.refl (w : World) (pb : Nat) (sv : Value) : Turned w w pb sv := .of_below (Below.refl _ _)
theorem Turned.trans {a b c : World} {pb : Nat} {sv sv' : Value} (h : Turned a b pb sv) (h' : Turned b c pb sv') (hf : Fresh a sv sv') : Turned a c pb sv :=
  ⟨h'.os.trans h.os, h'.tape.trans h.tape, h'.output.trans h.output, Nat.le_trans h.size h'.size, fun k hk hp hs =>
    (h'.block k (Nat.lt_of_lt_of_le hk h.size) hp (fun e => by rcases hf k e with h | h; exact hs h; omega)).trans (h.block k hk hp hs)⟩
theorem set_same {w : World} {a : Addr} {v u : Value} (h : w.cell? a = some u) : (w.setCell a v).cell? a = some v := World.cell?_setCell_same w a v h
theorem set_other {w : World} {a b : Addr} {v : Value} (h : a ≠ b) : (w.setCell a v).cell? b = w.cell? b := World.cell?_setCell_other w a b v h
theorem set_frz {w : World} {a b : Addr} {v : Value} : (w.setCell a v).frozen? b = w.frozen? b := by simp
theorem turned_set (w : World) (pb o : Nat) (sv v : Value) : Turned w (w.setCell ⟨pb, o, none⟩ v) pb sv :=
  ⟨rfl, rfl, rfl, by simp [World.setCell], fun k _ hk _ => Below.heap_setCell _ _ _ _ hk⟩
theorem turned_row (w : World) (g o pb : Nat) (sv v : Value) (h : sv.ownBlock = some g) : Turned w (w.setCell ⟨g, o, none⟩ v) pb sv :=
  ⟨rfl, rfl, rfl, by simp [World.setCell], fun k _ _ hk => Below.heap_setCell _ _ _ _ (fun e => hk (by rw [h]; simp [e]))⟩
theorem flatMap_set {α : Type} (f : α → List Value) (m : Nat) (hf : ∀ x, (f x).length = m) (j : Nat) (u : Value) (hj : j < m) (y : α) : ∀ (l : List α) (k : Nat) (hk : k < l.length), f y = (f l[k]).set j u → (l.set k y).flatMap f = (l.flatMap f).set (k * m + j) u
  | [], k, hk, _ => absurd hk (Nat.not_lt_zero _)
  | x :: l, 0, hk, h => by
    simp only [List.set_cons_zero, List.flatMap_cons, Nat.zero_mul, Nat.zero_add]
    rw [List.set_append_left _ _ (by rw [hf]; exact hj), h]; rfl
  | x :: l, k + 1, hk, h => by
    simp only [List.set_cons_succ, List.flatMap_cons]
    have e : (k + 1) * m + j = m + (k * m + j) := by rw [Nat.add_mul, Nat.one_mul]; omega
    rw [List.set_append_right _ _ (by rw [hf]; omega), hf, e, Nat.add_sub_cancel_left, flatMap_set f m hf j u hj y l k (by simpa using hk) h]
/-- One cell of a row that is owned is written. -/
theorem own_set {w : World} {B : Nat} {T : TypeId} {m g n cap : Nat} {xs : List Value} (h : w.ownsRow B T m (.slice (some ⟨g, 0, none⟩) n cap) n xs) (o : Nat) (u : Value) :
    (w.setCell ⟨g, o, none⟩ u).ownsRow B T m (.slice (some ⟨g, 0, none⟩) n cap) n (xs.set o u) := by
  refine ⟨by rw [List.length_set]; exact h.1, ?_⟩
  rcases h.2 with ⟨hv, _⟩ | ⟨g', cap', cur, hv, hB, hg, hn, hm, hs, ht⟩
  · cases hv
  · cases hv
    refine Or.inr ⟨g, cap, cur.setIfInBounds o u, rfl, hB, ?_, hn, hm, by simpa using hs, ?_⟩
    · simp only [World.setCell, Array.getElem?_modify, if_pos, hg, Option.map_some]
      rfl
    · rw [Array.toList_setIfInBounds, List.take_set, ht]
theorem grown_turned {w w' : World} {pb : Nat} {sv : Value} (h : w.grownBy w' sv.ownBlock) : Turned w w' pb sv := ⟨h.os, h.tape, h.output, h.size, fun k hk _ hs => h.block k hk (fun e => hs e.symm)⟩
end Go.Proofs.YtcfgacdcgljbaaaGreatDoor
namespace Go.Proofs.YtcfgacdcgljbaaaGreatDoor
open Go.RowKit
/-- Known behind a turn. -/
def isAt (t : Int) (v : Vr) : Bool := decide (v.fr ≤ t) && (decide (v.to = 0) || decide (t < v.to))
/-- Of a number, and known yet. -/
def isK (id : Int) (v : Vr) : Bool := decide (v.ev.id = id) && decide (v.to = 0)
set_option maxHeartbeats 1000000 in
theorem at_any (x : Vr) (t : Int) (B : Nat) (w : World) (hB : B < w.heap.size) (hc : w.cell? ⟨B, 0, none⟩ = some (.int .i64 t)) :
    Calls Tryz.prog 62 #[vrV x, .pointer (some ⟨B, 0, none⟩)] w fun e w' => e = .returned (.bool (isAt t x)) ∧ Below w.heap.size w w' := by
  obtain ⟨⟨id, item, kind, qty, price, ofI, day⟩, fr, to⟩ := x
  unfold vrV isAt
  simp only
  have hne : B ≠ w.heap.size := by omega
  by_cases h1 : fr ≤ t
  · by_cases h2 : to = 0
    · go_enter Tryz.func62, Tryz.ntmps62
      go_wp2
      go_ret
      exact ⟨by simp [h1, h2], (Below.refl _ _).alloc (Nat.le_refl _) _⟩
    · have h2' : decide (to = 0) = false := by simpa using h2
      by_cases h3 : t < to
      · go_enter Tryz.func62, Tryz.ntmps62
        go_wp2
        go_ret
        exact ⟨by simp [h1, h3], (Below.refl _ _).alloc (Nat.le_refl _) _⟩
      · go_enter Tryz.func62, Tryz.ntmps62
        go_wp2
        go_ret
        exact ⟨by have h4 : decide (t < to) = false := (by simp; omega); simp [h4, h2], (Below.refl _ _).alloc (Nat.le_refl _) _⟩
  · have h1' : decide (fr ≤ t) = false := by simpa using h1
    go_enter Tryz.func62, Tryz.ntmps62
    go_wp2
    go_ret
    exact ⟨by simp, (Below.refl _ _).alloc (Nat.le_refl _) _⟩
set_option maxHeartbeats 1000000 in
theorem isk_any (x : Vr) (t : Int) (B : Nat) (w : World) (hB : B < w.heap.size) (hc : w.cell? ⟨B, 0, none⟩ = some (.int .i64 t)) :
    Calls Tryz.prog 141 #[vrV x, .pointer (some ⟨B, 0, none⟩)] w fun e w' => e = .returned (.bool (isK t x)) ∧ Below w.heap.size w w' := by
  obtain ⟨⟨id, item, kind, qty, price, ofI, day⟩, fr, to⟩ := x
  unfold vrV isK
  simp only
  have hne : B ≠ w.heap.size := by omega
  by_cases h1 : id = t
  · subst h1
    by_cases h2 : to = 0
    · go_enter Tryz.func141, Tryz.ntmps141
      go_wp2
      go_ret
      exact ⟨by simp [h2], (Below.refl _ _).alloc (Nat.le_refl _) _⟩
    · have h2' : decide (to = 0) = false := by simpa using h2
      go_enter Tryz.func141, Tryz.ntmps141
      go_wp2
      go_ret
      exact ⟨by simp [h2], (Below.refl _ _).alloc (Nat.le_refl _) _⟩
  · have h1' : decide (id = t) = false := by simpa using h1
    go_enter Tryz.func141, Tryz.ntmps141
    go_wp2
    go_ret
    exact ⟨by simp [h1], (Below.refl _ _).alloc (Nat.le_refl _) _⟩
/-- What is asked of a closure that looks at versions: it may make memory, and turns none. -/
def LooksAt (g : Nat) (lb : Array Value) (p : Vr → Bool) (w : World) : Prop :=
  ∀ (W : World) (x : Vr), Below w.heap.size w W → Calls Tryz.prog g (#[vrV x] ++ lb) W fun e w' => e = .returned (.bool (p x)) ∧ Below W.heap.size W w'
theorem flatMap_snoc {α : Type} (f : α → List Value) (l : List α) (x : α) : (l ++ [x]).flatMap f = l.flatMap f ++ f x := by simp
theorem filter_snoc {α : Type} (p : α → Bool) (l : List α) (k : Nat) (hk : k < l.length) : (l.take (k + 1)).filter p = (l.take k).filter p ++ if p l[k] then [l[k]] else [] := by
  rw [List.take_succ_eq_append_getElem hk, List.filter_append]
  congr 1
  by_cases h : p l[k] <;> simp [h]
def vrZ : Value := .agg #[.int .i64 0, .string ⟨#[]⟩, .int .i64 0, .int .i64 0, .int .i64 0, .int .i64 0, .int .i64 0, .int .i64 0, .int .i64 0]
theorem Tryz.infoVr : (Tryz.prog.info? 154).map (fun i => (i.zero, i.size, i.bytes)) = some (some vrZ, 9, 80) := by kernel_rfl
set_option maxHeartbeats 4000000 in
theorem those_some (vs : List Vr) (pb g cap B : Nat) (f : Nat) (lb : Array Value) (p : Vr → Bool) (w : World)
    (hc0 : w.cell? ⟨pb, 0, none⟩ = some (.slice (some ⟨g, 0, none⟩) vs.length cap)) (hown : w.ownsRow B 154 9 (.slice (some ⟨g, 0, none⟩) vs.length cap) vs.length (vs.flatMap vrC))
    (hl : vs.length ≤ 1000000) (eg : ∀ args w, (callFunc f args).run Tryz.prog w = .ok (.enter f args) w) (hp : LooksAt f lb p w) :
    Calls Tryz.prog 61 #[.pointer (some ⟨pb, 0, none⟩), .func (.func f) #[] lb] w fun e w' => ∃ v, e = .returned v ∧ w'.ownsRow w.heap.size 154 9 v (vs.filter p).length ((vs.filter p).flatMap vrC) ∧ Below w.heap.size w w' := by
  have hgl : g < w.heap.size := by
    rcases own_form hown with ⟨h, _⟩ | ⟨g', cap', h, _, hg, _⟩
    · cases h
    · cases h; exact hg
  obtain ⟨i0, hi, hz0, hz1, hz2⟩ := info_parts Tryz.infoVr
  go_enter Tryz.func61, Tryz.ntmps61
  go_wp2
  go_loopw [5, 13] (fun v i wr => ∃ k : Nat, k ≤ vs.length ∧ i = .int .i64 k ∧ wr.ownsRow w.heap.size 154 9 v ((vs.take k).filter p).length (((vs.take k).filter p).flatMap vrC) ∧ Below w.heap.size w wr)
    (fun _ i _ => vs.length - (intOf i).toNat)
  case atStart => exact ⟨0, Nat.zero_le _, rfl, World.ownsRow_nil _ _ _ _, Below.refl _ _⟩
  case round =>
    obtain ⟨k, hk, rfl, hv, hb⟩ := hrel
    by_cases hlt : k < vs.length
    · obtain ⟨x, hx⟩ : ∃ x, x = vs[k] := ⟨_, rfl⟩
      have hcw : ∀ j, j < 9 → wr.cell? ⟨g, k * 9 + j, none⟩ = (vrC x)[j]? := fun j hj => by
        rw [hb.cell (p := ⟨g, k * 9 + j, none⟩) hgl, (own_cell vrC_len hown k j hlt hj).1, hx]
      have HF := filter_snoc p vs k hlt
      rw [← hx] at HF
      have hfl : ((vs.take k).filter p).length ≤ 1000000 := Nat.le_trans (List.length_filter_le _ _) (by rw [List.length_take]; omega)
      have HC := hp
      obtain ⟨⟨id, item, kind, qty, price, ofI, day⟩, fr, to⟩ := x
      obtain ⟨o, ho⟩ : ∃ o, o = Obj.cells #[.int .i64 id, .string item, .int .i64 kind, .int .i64 qty, .int .i64 price, .int .i64 ofI, .int .i64 day, .int .i64 fr, .int .i64 to] 154 := ⟨_, rfl⟩
      have hcall := hp (wr.alloc o) ⟨⟨id, item, kind, qty, price, ofI, day⟩, fr, to⟩ (hb.alloc hb.size _)
      have q0 := hcw 0 (by omega)
      have q1 := hcw 1 (by omega)
      have q2 := hcw 2 (by omega)
      have q3 := hcw 3 (by omega)
      have q4 := hcw 4 (by omega)
      have q5 := hcw 5 (by omega)
      have q6 := hcw 6 (by omega)
      have q7 := hcw 7 (by omega)
      have q8 := hcw 8 (by omega)
      simp only [vrC, List.getElem?_cons_zero, List.getElem?_cons_succ, Nat.add_zero] at q0 q1 q2 q3 q4 q5 q6 q7 q8
      clear hcw HC
      have HX : Hid (_ = vs[k]) := hx
      clear hx
      have HF' : Hid (_ = _) := HF
      clear HF
      have HO : Hid (wr.ownsRow _ _ _ _ _ _) := hv
      clear hv
      unfold vrV at hcall
      simp only at hcall
      go_wp2_with fail
      rw [← ho]
      refine hcall.mono ?_
      rintro e w1 ⟨rfl, hb1⟩
      have HO1 : Hid (w1.ownsRow w.heap.size 154 9 u5 ((vs.take k).filter p).length (((vs.take k).filter p).flatMap vrC)) := own_below (HO.out.alloc o) hb1 (Nat.le_refl _)
      have hbw : Below w.heap.size w w1 := (hb.alloc hb.size o).trans (hb1.mono (by have := hb.size; simp; omega))
      have hcx : ∀ j : Nat, w1.cell? ⟨wr.heap.size, j, none⟩ = (wr.alloc o).cell? ⟨wr.heap.size, j, none⟩ := fun j => hb1.cell (p := ⟨wr.heap.size, j, none⟩) (by simp)
      rw [ho] at hcx
      have r0 := hcx 0
      have r1 := hcx 1
      have r2 := hcx 2
      have r3 := hcx 3
      have r4 := hcx 4
      have r5 := hcx 5
      have r6 := hcx 6
      have r7 := hcx 7
      have r8 := hcx 8
      simp at r0 r1 r2 r3 r4 r5 r6 r7 r8
      clear hcx HO hcall hb1 ho q0 q1 q2 q3 q4 q5 q6 q7 q8
      cases hpx : p ⟨⟨id, item, kind, qty, price, ofI, day⟩, fr, to⟩ with
      | true =>
        rw [hpx] at HF'
        go_wp2_with (first
          | (at_builtin; refine wpList_append_own _ rfl _ _ 25 rfl w.heap.size 154 i0 vrZ 9 80 Tryz.underlying25 hi hz0 hz1 hz2 rfl (by decide) _ _ _ rfl (HO1.out.alloc _) ⟨w1.heap.size, 0, none⟩ 1 1 (vrC ⟨⟨id, item, kind, qty, price, ofI, day⟩, fr, to⟩) rfl rfl ?c1 ?c2 ?c3 ?c4 ?c5 ?_)
          | go_in)
        case c1 => exact cells_of_list rfl
        case c2 => exact vrC_one _
        case c3 => unfold maxLen; omega
        case c4 => omega
        case c5 => have := hbw.size; simp; omega
        · intro v' w2 hown2 hgr _
          go_wp2
          go_roundw
          case rel =>
            refine ⟨k + 1, by omega, by go_num, ?_, ?_⟩
            · rw [HF'.out]
              simpa using hown2
            · exact (hbw.alloc hbw.size _).grown hgr (by have := hbw.size; simp; omega) (fun j hj => (HO1.out.lt j hj).1)
          case measure => simp [intOf]; omega
      | false =>
        rw [hpx] at HF'
        go_wp2
        go_roundw
        case rel =>
          refine ⟨k + 1, by omega, by go_num, ?_, hbw⟩
          rw [HF'.out]
          simpa using HO1.out
        case measure => simp [intOf]; omega
    · go_wp2
      go_ret
      refine ⟨_, rfl, ?_, hb⟩
      have e : k = vs.length := by omega
      subst e
      simpa using hv
end Go.Proofs.YtcfgacdcgljbaaaGreatDoor
