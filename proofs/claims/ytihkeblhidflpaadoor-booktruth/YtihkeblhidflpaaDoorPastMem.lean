/- What was known behind each turn, in memory. -/
import Derived.Test.YtihkeblhidflpaaDoorBookMath
import Derived.Test.YtihkeblhidflpaaDoorBookEqual
import Derived.Maps.OwnOps
import Derived.Maps.OwnSet
namespace Go.Proofs.YtihkeblhidflpaaDoor
open Go.RowKit
open Go.Maps (Keyed int_keyed keyOf_int_mk)
/-- A book lies there, and a slice of slices: what was known behind each turn. -/
structure PastAt (w : World) (B pb : Nat) (sv pv : Value) (b : Bk) (ps : List Value) : Prop where
  book : BookAt w B pb sv b
  row : w.ownsRow B 37 1 pv ps.length ps
  each : ∀ t (h : t < ps.length), w.ownsRow B 34 7 ps[t] (srt (asOf b t)).length ((srt (asOf b t)).flatMap evC)
  d1 : pv.ownBlock ≠ some pb
  d2 : ∀ g, sv.ownBlock = some g → pv.ownBlock ≠ some g
  d3 : ∀ v ∈ ps, v.ownBlock ≠ some pb
  d4 : ∀ v ∈ ps, ∀ g, sv.ownBlock = some g → v.ownBlock ≠ some g
  d5 : ∀ v ∈ ps, ∀ g, pv.ownBlock = some g → v.ownBlock ≠ some g
theorem own_lt {w : World} {B : Nat} {T : TypeId} {m n : Nat} {v : Value} {xs : List Value} (h : w.ownsRow B T m v n xs) {g : Nat} (hg : v.ownBlock = some g) : g < w.heap.size := (h.lt g hg).2
theorem own_turned {w w' : World} {B pb : Nat} {sv : Value} {T : TypeId} {m n : Nat} {v : Value} {xs : List Value} (h : w.ownsRow B T m v n xs) (ht : Turned w w' pb sv) (h1 : v.ownBlock ≠ some pb) (h2 : ∀ g, sv.ownBlock = some g → v.ownBlock ≠ some g) : w'.ownsRow B T m v n xs := by
  refine ⟨h.1, ?_⟩
  rcases h.2 with hn | ⟨g, cap, cur, hv, hB, hg, rest⟩
  · exact Or.inl hn
  · refine Or.inr ⟨g, cap, cur, hv, hB, ?_, rest⟩
    have e : v.ownBlock = some g := by rw [hv]; rfl
    rw [ht.block g (Array.getElem?_eq_some_iff.1 hg).1 (fun e' => h1 (by rw [e, e'])) (fun e' => h2 g e' e)]
    exact hg
theorem PastAt.below {w w' : World} {B pb : Nat} {sv pv : Value} {b : Bk} {ps : List Value} (h : PastAt w B pb sv pv b ps) (hb : Below w.heap.size w w') : PastAt w' B pb sv pv b ps :=
  ⟨h.book.below hb, own_below h.row hb (Nat.le_refl _), fun t ht => own_below (h.each t ht) hb (Nat.le_refl _), h.d1, h.d2, h.d3, h.d4, h.d5⟩
/-- A deed was done, or refused: what was known stays there. -/
theorem PastAt.turned {w w' : World} {B pb : Nat} {sv sv' pv : Value} {b b' : Bk} {ps : List Value} (h : PastAt w B pb sv pv b ps) (ht : Turned w w' pb sv) (hb : BookAt w' B pb sv' b') (hf : Fresh w sv sv') (he : ∀ t : Nat, t < ps.length → asOf b' t = asOf b t) : PastAt w' B pb sv' pv b' ps := by
  refine ⟨hb, own_turned h.row ht h.d1 h.d2, fun t hlt => ?_, h.d1, fun g hg e => ?_, h.d3, fun v hv g hg e => ?_, h.d5⟩
  · rw [he t hlt]
    have hm : ps[t] ∈ ps := List.getElem_mem hlt
    exact own_turned (h.each t hlt) ht (h.d3 _ hm) (h.d4 _ hm)
  · rcases hf g hg with h1 | h1
    · exact h.d2 g h1 e
    · have := own_lt h.row e; omega
  · rcases hf g hg with h1 | h1
    · exact h.d4 v hv g h1 e
    · obtain ⟨t, hlt, rfl⟩ := List.getElem_of_mem hv
      have := own_lt (h.each t hlt) e; omega
theorem own_grown {w w' : World} {B : Nat} {T : TypeId} {m n : Nat} {v : Value} {row : Option Nat} {xs : List Value} (h : w.ownsRow B T m v n xs) (hg : w.grownBy w' row) (hne : ∀ g, row = some g → v.ownBlock ≠ some g) : w'.ownsRow B T m v n xs := by
  refine ⟨h.1, ?_⟩
  rcases h.2 with hn | ⟨g, cap, cur, hv, hB, hgg, rest⟩
  · exact Or.inl hn
  · refine Or.inr ⟨g, cap, cur, hv, hB, ?_, rest⟩
    have e : v.ownBlock = some g := by rw [hv]; rfl
    rw [hg.block g (Array.getElem?_eq_some_iff.1 hgg).1 (fun e' => hne g e'.symm e)]
    exact hgg
theorem BookAt.grown {w w' : World} {B pb : Nat} {sv : Value} {b : Bk} {row : Option Nat} (h : BookAt w B pb sv b) (hg : w.grownBy w' row) (h1 : row ≠ Option.some pb) (h2 : ∀ g, row = Option.some g → sv.ownBlock ≠ Option.some g) : BookAt w' B pb sv b := by
  have e := hg.block pb h.lt (fun e => h1 e.symm)
  exact ⟨(World.cell?_of_block (a := ⟨pb, 0, none⟩) e).trans h.c0, (World.cell?_of_block (a := ⟨pb, 1, none⟩) e).trans h.c1, (World.cell?_of_block (a := ⟨pb, 2, none⟩) e).trans h.c2,
    (World.frozen?_of_block (a := ⟨pb, 0, none⟩) e).trans h.f0, (World.frozen?_of_block (a := ⟨pb, 1, none⟩) e).trans h.f1, (World.frozen?_of_block (a := ⟨pb, 2, none⟩) e).trans h.f2, own_grown h.own hg h2, h.ne, h.ge⟩
/-- One more: what is known now. -/
theorem PastAt.push {w w' : World} {B pb : Nat} {sv pv pv' v : Value} {b : Bk} {ps : List Value} (h : PastAt w B pb sv pv b ps) (hv : w.ownsRow B 34 7 v (srt (asOf b ps.length)).length ((srt (asOf b ps.length)).flatMap evC))
    (v1 : v.ownBlock ≠ some pb) (v2 : ∀ g, sv.ownBlock = some g → v.ownBlock ≠ some g) (v3 : ∀ g, pv.ownBlock = some g → v.ownBlock ≠ some g)
    (hr : w'.ownsRow B 37 1 pv' (ps.length + 1) (ps ++ [v])) (hg : w.grownBy w' pv.ownBlock) (hf : Fresh w pv pv') : PastAt w' B pb sv pv' b (ps ++ [v]) := by
  have lt : ∀ u ∈ ps ++ [v], ∀ g, u.ownBlock = some g → g < w.heap.size := fun u hu g e => by
    rcases List.mem_append.1 hu with hu | hu
    · obtain ⟨t, hlt, rfl⟩ := List.getElem_of_mem hu
      exact own_lt (h.each t hlt) e
    · rw [List.mem_singleton.1 hu] at e; exact own_lt hv e
  have ap : ∀ u ∈ ps ++ [v], ∀ g, pv.ownBlock = some g → u.ownBlock ≠ some g := fun u hu => by
    rcases List.mem_append.1 hu with hu | hu
    · exact h.d5 u hu
    · rw [List.mem_singleton.1 hu]; exact v3
  refine ⟨h.book.grown hg h.d1 (fun g e e' => h.d2 g e' e), by rw [List.length_append]; exact hr, fun t hlt => ?_, fun e => ?_, fun g e e' => ?_, fun u hu => ?_, fun u hu => ?_, fun u hu g e e' => ?_⟩
  · by_cases ht : t < ps.length
    · rw [List.getElem_append_left ht]
      exact own_grown (h.each t ht) hg (h.d5 _ (List.getElem_mem ht))
    · have e : t = ps.length := by simp at hlt; omega
      subst e
      rw [List.getElem_append_right (Nat.le_refl _)]
      simp only [Nat.sub_self, List.getElem_cons_zero]
      exact own_grown hv hg v3
  · rcases hf pb e with h1 | h1
    · exact h.d1 h1
    · have := h.book.lt; omega
  · rcases hf g e' with h1 | h1
    · exact h.d2 g e h1
    · have := (h.book.block g e).2; omega
  · rcases List.mem_append.1 hu with hu | hu
    · exact h.d3 u hu
    · rw [List.mem_singleton.1 hu]; exact v1
  · rcases List.mem_append.1 hu with hu | hu
    · exact h.d4 u hu
    · rw [List.mem_singleton.1 hu]; exact v2
  · rcases hf g e with h1 | h1
    · exact ap u hu g h1 e'
    · have := lt u hu g e'; omega
theorem Tryd.infoSl : (Tryd.prog.info? 37).map (fun i => (i.zero, i.size, i.bytes)) = some (some (.slice none 0 0), 1, 24) := by kernel_rfl
/-- A look-up of what is not there. -/
theorem wpList_lookup_no {H : Type} {P : Program} (w : World) {ops : Array Oper} {rest : List Oper} {o : Oper} {a : Act} {Q : Exit → Act → World → Prop}
    (hg : o.guard = none) (m x : Operand) (t : TypeId) (hop : o.op = Op.lookup t m x false)
    (k e : TypeId) (K : Keyed P k) (ht : P.underlying t = some (.map k e)) (he : P.underlying e = some .bool) (hz : (zeroValue e).run P w = .ok (.bool false) w) (b n : Nat) (D : DataW H)
    (hm : a.eval m = .map (some b)) (hown : w.ownsMap P k (plainElem P e) b n D) (key : Value) (kl : Lit) (hx : a.eval x = key) (hkey : keyOf P k key = some kl) (hno : Maps.has D kl = false)
    (hK : wpList P ops Q rest (a.put o.dst (.bool false)) w) :
    wpList P ops Q (o :: rest) a w := by
  refine wpList_plain hg fun K' hK' => ?_
  obtain ⟨v, ps, hrun, hv⟩ := hown.lookup K ht hz (plainElem_bool he false) hkey
  rw [Maps.atKey_of_not_has hno] at hv
  have ev : v = .bool false := by
    unfold plainElem at hv
    rw [he] at hv
    cases v <;> simp at hv
    rw [hv.1]
  subst ev
  unfold Oper.wp
  simp [execOp, hop, hm, hx, hrun, Result.andThen]
  exact hK' _ _ hK
theorem law_int : Keyed Tryd.prog 3 := int_keyed Tryd.underlying3
theorem zero_bool (w : World) : (zeroValue 4).run Tryd.prog w = .ok (.bool false) w := by kernel_rfl
/-- The numbers of events, as keys. -/
def keysL (l : List Ev) : List Lit := l.map fun e => Lit.int .i64 e.id
theorem keysL_key (l : List Ev) : ∀ x ∈ keysL l, WideAt.IsKeyLit x := by
  intro x hx
  obtain ⟨e, _, rfl⟩ := List.mem_map.1 hx
  exact trivial
theorem keysL_no {l : List Ev} {k : Nat} (hk : k < l.length) (hn : (l.map (·.id)).Nodup) : Maps.has (Maps.setOf (H := Unit) (.lit (.bool true)) (keysL (l.take k))) (Lit.int .i64 l[k].id) = false := by
  rw [Maps.has_setOf _ _ _ (keysL_key _), List.any_eq_false]
  intro x hx hs
  obtain ⟨e, he, rfl⟩ := List.mem_map.1 hx
  have e1 : e.id = l[k].id := by
    simpa [Lit.sameKey] using hs
  obtain ⟨j, hj, rfl⟩ := List.getElem_of_mem he
  have hjk : j < k := by rw [List.length_take] at hj; omega
  rw [List.getElem_take] at e1
  have hlt : j < l.length := by omega
  have hp := List.pairwise_iff_getElem.1 hn j k (by simpa using hlt) (by simpa using hk) hjk
  simp at hp
  exact hp e1
theorem keysL_snoc (l : List Ev) (k : Nat) (hk : k < l.length) : Maps.setOf (H := Unit) (.lit (.bool true)) (keysL (l.take (k + 1))) = (Maps.setOf (.lit (.bool true)) (keysL (l.take k))).put (Lit.int .i64 l[k].id) (.lit (.bool true)) := by
  unfold keysL
  rw [map_snoc _ l k hk, Maps.setOf_snoc]
end Go.Proofs.YtihkeblhidflpaaDoor
