/- Results side by side: lines. -/
import Derived.Test.YtppamojkhkdfpaaDoorCoRun
import Derived.Test.YtppamojkhkdfpaaDoorLedSize
import Derived.Laws.StructEq
namespace Go.Proofs.YtppamojkhkdfpaaDoor
open Go.RowKit Go.Maps
theorem neq_linR (a b c d : Int) (e : Bool) (w : World) : (binOp BinOp.neq 33 (.agg #[.int .i64 a, .int .i64 b, .int .i64 c, .int .i64 d, .bool e]) (.agg #[.int .i64 a, .int .i64 b, .int .i64 c, .int .i64 d, .bool e])).run Tryd.prog w = .ok (.bool false) w := by
  have hS : Tryd.prog.underlying 33 = some (.struct (Tryd.prog.fieldsOf 33)) := by kernel_rfl
  have hp : Tryd.prog.stoodInHeld 33 = false := by kernel_rfl
  have u3 := Tryd.underlying3
  have a3 := Tryd.isAgg3
  have z3 := Tryd.sizeOf3
  have u4 := Tryd.underlying4
  have a4 := Tryd.isAgg4
  have z4 := Tryd.sizeOf4
  rw [run_neq_struct, show (10000 : Nat) = 9999 + 1 from rfl, run_equalIn_agg w 9999 33 _ _ hS hp]
  simp only [Program.fieldsOf, Tryd.underlying33]
  go_simp
theorem res_sizeR {B1 B2 : Nat} {W : World} {m1 m2 n1 n2 : Nat} {D1 D2 : DataW Value} {V1 V2 : ByteArray → Value} {M : Stks} {u1 u2 : Value} {l1 l2 : List Lin} (h1 : RunRes B1 W m1 n1 D1 V1 M u1 l1) (h2 : RunRes B2 W m2 n2 D2 V2 M u2 l2) : Maps.size D1 = Maps.size D2 := by
  have hk : ∀ {B : Nat} {m n : Nat} {D : DataW Value} {V : ByteArray → Value} {u : Value} {l : List Lin}, RunRes B W m n D V M u l → ∀ x, has D (keyB x) = !(M x).ys.isEmpty := fun {B m n D V u l} h x => by
    by_cases e : (M x).ys = []
    · rw [h.no x e, e]; rfl
    · rw [has_true_of_atKey (h.yes x e)]
      cases hy : (M x).ys with
      | nil => exact absurd hy e
      | cons _ _ => rfl
  refine sizeL_same (h1.map.canon law_strT) (h2.map.canon law_strT) fun k => ?_
  by_cases e1 : has D1 k = true
  · obtain ⟨x, rfl⟩ := mapL_keys h1.map e1
    rw [hk h1, hk h2]
  · by_cases e2 : has D2 k = true
    · obtain ⟨x, rfl⟩ := mapL_keys h2.map e2
      rw [hk h1, hk h2]
    · rw [Bool.not_eq_true] at e1 e2
      rw [e1, e2]
theorem own_nR {w : World} {B : Nat} {T : TypeId} {m n k c : Nat} {ad : Option Addr} {xs : List Value} (h : w.ownsRow B T m (.slice ad k c) n xs) : k = n := by
  rcases own_form h with ⟨e, e2, _⟩ | ⟨g, cp, e, _⟩
  · simp only [Value.slice.injEq] at e; omega
  · simp only [Value.slice.injEq] at e; exact e.2.1
theorem ranges_below {P : Program} {k : TypeId} {R : Value → Option (DataW Value × List MemPlace)} {w w' : World} {b r n cnt : Nat} {D : DataW Value} {left : Lit → Bool} (h : w.ranges P k R b r n D left cnt) (hb : Below w.heap.size w w') : w'.ranges P k R b r n D left cnt := by
  have hg : w.grownBy w' none := ⟨hb.os, hb.tape, hb.output, hb.size, fun j hj _ => hb.block j hj⟩
  exact h.kept hg (by simp) (by simp)
theorem RunRes.low {B : Nat} {W : World} {mb n : Nat} {D : DataW Value} {V : ByteArray → Value} {M : Stks} {u : Value} {ls : List Lin} (h : RunRes B W mb n D V M u ls) : RunRes 0 W mb n D V M u ls :=
  ⟨h.map, h.no, h.yes, h.lay, own_below h.own (Below.refl _ _) (Nat.zero_le _)⟩
theorem goS_none (x : ByteArray) : ∀ (es : List Ev) (M : Stks), (∀ e ∈ es, e.item ≠ x) → goS M es x = M x
  | [], _, _ => rfl
  | e :: es, M, h => by
    have h1 := goS_none x es (upd M e.item (doE (M e.item) e).1) (fun y hy => h y (List.mem_cons_of_mem _ hy))
    show goS (upd M e.item (doE (M e.item) e).1) es x = M x
    rw [h1, upd_other]
    exact fun c => h e (List.mem_cons_self ..) c.symm
theorem none_ys (l : List Ev) : (goS stk00 (ordd l) ⟨#[]⟩).ys = [] := by
  rw [goS_none]
  · rfl
  · intro e he c
    have h1 := (ordd_rt l e he).1.1.1
    rw [c] at h1
    simp at h1
end Go.Proofs.YtppamojkhkdfpaaDoor
