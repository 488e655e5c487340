/- A region that draws its order and holds calls that make memory but change none: one walk serves every order. The class of worlds: those that have grown out of one. -/
import Derived.Test.YtfppcecjpaefdaaBase
import Derived.StillTailTactics
namespace Go.Proofs.Ytfppcecjpaefdaa
open Go.RowKit
/-- A world that has grown out of w. -/
structure Up (w : World) where
  v : World
  h : Below w.heap.size w v
theorem below_drawn (w : World) : Below w.heap.size w { w with drawn := w.drawn + 1 } := ⟨rfl, rfl, rfl, Nat.le_refl _, fun _ _ => rfl⟩
theorem below_drew (w : World) : Below w.heap.size w w.drew := below_drawn w
theorem wp_region_up {P : Program} {id : Nat} {Q : Exit → Act → World → Prop} {a : Act} {w : World} {l : List Oper} (hm : P.follows .mixedOrders = true) (hB : Region.lexB .any l.toArray = true)
    (h : wpQuiet P l.toArray (fun w' => ∃ n : Up w, w' = n.v) (fun a' => ∀ w', (∃ n : Up w, w' = n.v) → Q .normal a' w') l a) : (Code.region id l.toArray true).wp P Q a w :=
  wp_region_quiet (C := fun w' => ∃ n : Up w, w' = n.v) hm hB ⟨⟨_, below_drawn w⟩, rfl⟩ (by simpa using h)
theorem calls_up {P : Program} {f : FuncId} {args : Array Value} {w : World} {n : Up w} {v : Value}
    (h : Calls P f args n.v fun e w' => e = .returned v ∧ Below n.v.heap.size n.v w') : Calls P f args n.v fun e w'' => e = .returned v ∧ ∃ m : Up w, w'' = m.v :=
  h.mono fun _ w' ⟨he, hb⟩ => ⟨he, ⟨w', n.h.trans (hb.mono n.h.size)⟩, rfl⟩
theorem calls_up_same {P : Program} {f : FuncId} {args : Array Value} {w : World} {n : Up w} {v : Value}
    (h : Calls P f args n.v fun e w' => e = .returned v ∧ w' = n.v) : Calls P f args n.v fun e w'' => e = .returned v ∧ ∃ m : Up w, w'' = m.v :=
  h.mono fun _ _ ⟨he, hb⟩ => ⟨he, n, hb⟩
/-- What a cell of the first world holds it holds in each. -/
theorem Up.cell {w : World} (n : Up w) {p : Addr} {x : Value} (h : w.cell? p = some x) : n.v.cell? p = some x := by
  rw [n.h.cell (World.block_lt_of_cell? _ _ h)]; exact h
end Go.Proofs.Ytfppcecjpaefdaa
