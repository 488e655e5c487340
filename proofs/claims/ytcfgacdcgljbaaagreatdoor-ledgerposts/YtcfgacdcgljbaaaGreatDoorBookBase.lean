/- Versions, books, and how they lie in memory. -/
import Derived.Test.YtcfgacdcgljbaaaGreatDoorBnI
import Derived.Test.YtcfgacdcgljbaaaGreatDoorBnL
import Derived.Test.YtcfgacdcgljbaaaGreatDoorBnG
namespace Go.Proofs.YtcfgacdcgljbaaaGreatDoor
open Go.RowKit
/-- A version, a book. -/
structure Vr where
  ev : Ev
  fr : Int
  to : Int
  deriving Inhabited
structure Bk where
  vs : List Vr
  n : Int
  g : Int
def evC (e : Ev) : List Value := [.int .i64 e.id, .string e.item, .int .i64 e.kind, .int .i64 e.qty, .int .i64 e.price, .int .i64 e.ofI, .int .i64 e.day]
def vrC (v : Vr) : List Value := [.int .i64 v.ev.id, .string v.ev.item, .int .i64 v.ev.kind, .int .i64 v.ev.qty, .int .i64 v.ev.price, .int .i64 v.ev.ofI, .int .i64 v.ev.day, .int .i64 v.fr, .int .i64 v.to]
def vrV (v : Vr) : Value := .agg #[.int .i64 v.ev.id, .string v.ev.item, .int .i64 v.ev.kind, .int .i64 v.ev.qty, .int .i64 v.ev.price, .int .i64 v.ev.ofI, .int .i64 v.ev.day, .int .i64 v.fr, .int .i64 v.to]
theorem evC_len (e : Ev) : (evC e).length = 7 := rfl
theorem vrC_len (v : Vr) : (vrC v).length = 9 := rfl
theorem evC_one (e : Ev) : ∀ u ∈ evC e, u.oneCell' = true := by
  intro u hu
  simp only [evC, List.mem_cons, List.not_mem_nil, or_false] at hu
  rcases hu with rfl | rfl | rfl | rfl | rfl | rfl | rfl <;> rfl
theorem vrC_one (e : Vr) : ∀ u ∈ vrC e, u.oneCell' = true := by
  intro u hu
  simp only [vrC, List.mem_cons, List.not_mem_nil, or_false] at hu
  rcases hu with rfl | rfl | rfl | rfl | rfl | rfl | rfl | rfl | rfl <;> rfl
end Go.Proofs.YtcfgacdcgljbaaaGreatDoor
