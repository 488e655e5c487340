/- A book, and a map of what each event was last told to be, in memory. -/
import Derived.Test.YtihkeblhidflpaaDoorTruthMath
import Derived.Test.YtihkeblhidflpaaDoorPastMem
namespace Go.Proofs.YtihkeblhidflpaaDoor
open Go.RowKit
open Go.Maps (Keyed int_keyed keyOf_int_mk)
structure TruthAt (w : World) (B pb mb : Nat) (sv : Value) (b : Bk) (n : Nat) (D : DataW Unit) : Prop where
  book : BookAt w B pb sv b
  map : w.ownsMap Tryd.prog 3 evElem mb n D
  ge : B ≤ mb
  last : LastD D b
theorem own_ne_map {w : World} {B : Nat} {T : TypeId} {m n k mb : Nat} {v : Value} {xs : List Value} {R : Value → Option (DataW Unit × List MemPlace)} {P : Program} {kt : TypeId} {D : DataW Unit} (h : w.ownsRow B T m v n xs) (hm : w.ownsMap P kt R mb k D) : v.ownBlock ≠ some mb := by
  obtain ⟨es, clock, hb, _⟩ := hm
  rcases h.2 with ⟨rfl, _⟩ | ⟨g, cap, cur, rfl, _, hg, _⟩
  · simp [Value.ownBlock]
  · intro e
    have e' : g = mb := by simpa [Value.ownBlock] using e
    subst e'
    rw [hb] at hg; cases hg
theorem book_ne_map {w : World} {B pb mb k : Nat} {sv : Value} {b : Bk} {R : Value → Option (DataW Unit × List MemPlace)} {P : Program} {kt : TypeId} {D : DataW Unit} (h : BookAt w B pb sv b) (hm : w.ownsMap P kt R mb k D) : pb ≠ mb := by
  obtain ⟨es, clock, hb, _⟩ := hm
  intro e
  subst e
  have := h.c0
  simp [World.cell?, hb] at this
theorem map_below {w w' : World} {mb k : Nat} {R : Value → Option (DataW Unit × List MemPlace)} {P : Program} {kt : TypeId} {D : DataW Unit} (hm : w.ownsMap P kt R mb k D) (hb : Below w.heap.size w w') : w'.ownsMap P kt R mb k D :=
  hm.kept (row := none) ⟨hb.os, hb.tape, hb.output, hb.size, fun k hk _ => hb.block k hk⟩ (by simp)
theorem map_turned {w w' : World} {B pb mb k : Nat} {sv : Value} {b : Bk} {R : Value → Option (DataW Unit × List MemPlace)} {P : Program} {kt : TypeId} {D : DataW Unit} (hm : w.ownsMap P kt R mb k D) (h : BookAt w B pb sv b) (ht : Turned w w' pb sv) : w'.ownsMap P kt R mb k D := by
  have h1 := book_ne_map h hm
  have h2 := own_ne_map h.own hm
  have hlt := hm.lt
  obtain ⟨es, clock, hb, rest⟩ := hm
  exact ⟨es, clock, by rw [ht.block mb hlt (Ne.symm h1) h2]; exact hb, rest⟩
theorem TruthAt.below {w w' : World} {B pb mb n : Nat} {sv : Value} {b : Bk} {D : DataW Unit} (h : TruthAt w B pb mb sv b n D) (hb : Below w.heap.size w w') : TruthAt w' B pb mb sv b n D :=
  ⟨h.book.below hb, map_below h.map hb, h.ge, h.last⟩
/-- One event was told anew. -/
theorem TruthAt.put {w w' : World} {B pb mb n : Nat} {sv : Value} {b : Bk} {D D' : DataW Unit} (hb : BookAt w B pb sv b) (hm : w.ownsMap Tryd.prog 3 evElem mb n D) (hg : w.grownBy w' (some mb)) (hm' : w'.ownsMap Tryd.prog 3 evElem mb (n + 1) D') (ge : B ≤ mb) (hl : LastD D' b) : TruthAt w' B pb mb sv b (n + 1) D' := by
  have h1 := book_ne_map hb hm
  have h2 := own_ne_map hb.own hm
  exact ⟨hb.grown hg (fun e => h1 (by injection e with e; exact e.symm)) (fun g e e' => h2 (by rw [e', ← e])), hm', ge, hl⟩
/-- An event as a value, for a look-up. -/
theorem wpList_lookup_ev {P : Program} (w : World) {ops : Array Oper} {rest : List Oper} {o : Oper} {a : Act} {Q : Exit → Act → World → Prop}
    (hg : o.guard = none) (m x : Operand) (t : TypeId) (hop : o.op = Op.lookup t m x true)
    (k e : TypeId) (K : Keyed P k) (ht : P.underlying t = some (.map k e)) (hz : (zeroValue e).run P w = .ok (evV ev0) w) (b n : Nat) (D : DataW Unit)
    (hm : a.eval m = .map (some b)) (hown : w.ownsMap P k evElem b n D) (key : Value) (kl : Lit) (hx : a.eval x = key) (hkey : keyOf P k key = some kl) (bb : Bool) (hbb : Maps.has D kl = bb)
    (hK : ∀ x : Ev, wpList P ops Q rest (a.put o.dst (.tuple #[.agg #[.int .i64 x.id, .string x.item, .int .i64 x.kind, .int .i64 x.qty, .int .i64 x.price, .int .i64 x.ofI, .int .i64 x.day], .bool bb])) w) :
    wpList P ops Q (o :: rest) a w := by
  subst hbb
  exact wpList_lookup_own_ok w hg m x t hop k e K ht evElem hz (evL ev0) [] (evElem_mk ev0) b n D hm hown key kl hx hkey (fun v ps hv => by
    obtain ⟨y, rfl, _⟩ := evElem_inv hv
    exact hK y)
theorem own_ne_iter {w : World} {B : Nat} {T : TypeId} {m n k mb r cnt : Nat} {v : Value} {xs : List Value} {R : Value → Option (DataW Unit × List MemPlace)} {P : Program} {kt : TypeId} {D : DataW Unit} {left : Lit → Bool} (h : w.ownsRow B T m v n xs) (hr : w.ranges P kt R mb r k D left cnt) : v.ownBlock ≠ some r := by
  obtain ⟨_, _, _, _, _, _, _, _, _, hit, _⟩ := hr
  rcases h.2 with ⟨rfl, _⟩ | ⟨g, cap, cur, rfl, _, hb, _⟩
  · simp [Value.ownBlock]
  · intro e1
    have : g = r := by simpa [Value.ownBlock] using e1
    subst this
    rw [hit] at hb
    cases hb
theorem size_le_len {D : DataW Unit} {w : World} {P : Program} {kt : TypeId} {R : Value → Option (DataW Unit × List MemPlace)} {mb n : Nat} (h : w.ownsMap P kt R mb n D) : Maps.size D ≤ n := h.size_le
theorem last_at {D : DataW Unit} {b : Bk} (h : LastD D b) {id : Int} {e : Ev} (hh : Maps.has D (.int .i64 id) = true) (he : ∀ z, D.atKey (.int .i64 id) z = evL e) : LastIs b id e := by
  rw [h.has id] at hh
  have hr : 1 ≤ id ∧ id ≤ b.g := by simpa using hh
  obtain ⟨e', h1, h2⟩ := h.at_ id hr.1 hr.2
  have : e = e' := evL_inj ((he (.nil)).symm.trans (h2 _))
  rw [this]; exact h1
/-- The next of a map's events. -/
theorem wpList_next_ev {P : Program} (w : World) {ops : Array Oper} {rest : List Oper} {o : Oper} {a : Act} {Q : Exit → Act → World → Prop}
    (hg : o.guard = none) (it : Operand) (hop : o.op = Op.next it false) (k : TypeId) (K : Keyed P k) (hk : P.underlying k = some (.int .i64))
    (b r n : Nat) (D : DataW Unit) (left : Lit → Bool) (cnt : Nat) (hit : a.eval it = .pointer (some ⟨r, 0, none⟩)) (h : w.ranges P k evElem b r n D left cnt)
    (hDone : cnt = 0 → (∀ kl, left kl = false) → wpList P ops Q rest (a.put o.dst (.tuple #[.bool false])) w)
    (hMore : ∀ (x : Int) (e : Ev) (w' : World) (cnt' : Nat), left (.int .i64 x) = true → (∀ zd, D.atKey (.int .i64 x) zd = evL e) → w'.ranges P k evElem b r n D (fun z => left z && !z.sameKey (.int .i64 x)) cnt' → cnt' < cnt →
      w.grownBy w' (some r) → w'.heap.size = w.heap.size → (Instr.entry (.pointer (some ⟨r, 0, none⟩))).run P w' = .ok (.tuple #[.int .i64 x, .agg #[.int .i64 e.id, .string e.item, .int .i64 e.kind, .int .i64 e.qty, .int .i64 e.price, .int .i64 e.ofI, .int .i64 e.day]]) w' →
      wpList P ops Q rest (a.put o.dst (.tuple #[.bool true, .int .i64 x, .agg #[.int .i64 e.id, .string e.item, .int .i64 e.kind, .int .i64 e.qty, .int .i64 e.price, .int .i64 e.ofI, .int .i64 e.day]])) w') :
    wpList P ops Q (o :: rest) a w :=
  wpList_next_ranges w hg it hop k K evElem (Value.int .i64) evV (fun key kl hkey => by obtain ⟨x, hx, _⟩ := Maps.keyOf_int_inv hk hkey; exact ⟨x, hx⟩) (fun v y hv => by obtain ⟨c, hc, _⟩ := evElem_inv hv; exact ⟨c, hc⟩)
    b r n D left cnt hit h hDone (fun x c kl y w' cnt' hkey hlk hv hat hrg hlt hgr hsz hen => by
      obtain ⟨x', ex, rfl, _⟩ := Maps.keyOf_int_inv hk hkey
      cases ex
      have hy : y = (evL c, []) := (Option.some.inj ((evElem_mk c).symm.trans hv)).symm
      subst hy
      exact hMore x c w' cnt' hlk hat hrg hlt hgr hsz hen)
theorem law_intT : Keyed Tryd.prog 3 := int_keyed Tryd.underlying3
theorem zero_ev (w : World) : (zeroValue 34).run Tryd.prog w = .ok (evV ev0) w := by kernel_rfl
theorem key_int (i : Int) (h : (Lit.int .i64 i).wf = true) : keyOf Tryd.prog 3 (.int .i64 i) = some (.int .i64 i) := keyOf_int_mk Tryd.underlying3 h
end Go.Proofs.YtihkeblhidflpaaDoor
