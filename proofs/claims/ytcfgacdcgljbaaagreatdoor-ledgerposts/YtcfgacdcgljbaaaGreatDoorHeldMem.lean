/- Maps whose elements are held as they stand. -/
import Derived.Test.YtcfgacdcgljbaaaGreatDoorBnG
import Derived.Maps.Ext
import Derived.Maps.RangeWalk
import Derived.StringKeys
namespace Go.Proofs.YtcfgacdcgljbaaaGreatDoor
open Go.RowKit Go.Maps
/-- A map's element, as it stands. -/
def heldE (v : Value) : Option (DataW Value × List MemPlace) := some (.held v, [])
theorem heldE_inv {v : Value} {d : DataW Value} {ps : List MemPlace} (h : heldE v = some (d, ps)) : d = .held v := by
  unfold heldE at h; cases h; rfl
theorem held_inj {a b : Value} (h : (DataW.held a : DataW Value) = .held b) : a = b := by cases h; rfl
theorem map_same {P : Program} {k : TypeId} {R : Value → Option (DataW Value × List MemPlace)} {w w' : World} {mb n : Nat} {D : DataW Value} (h : w.ownsMap P k R mb n D) (e : w'.heap[mb]? = w.heap[mb]?) : w'.ownsMap P k R mb n D := by
  obtain ⟨es, clock, hb, rest⟩ := h
  exact ⟨es, clock, by rw [e]; exact hb, rest⟩
theorem map_lt {P : Program} {k : TypeId} {R : Value → Option (DataW Value × List MemPlace)} {w : World} {mb n : Nat} {D : DataW Value} (h : w.ownsMap P k R mb n D) : mb < w.heap.size := h.lt
theorem row_same {w w' : World} {B : Nat} {T : TypeId} {m n : Nat} {v : Value} {xs : List Value} (h : w.ownsRow B T m v n xs) (e : ∀ k, v.ownBlock = some k → w'.heap[k]? = w.heap[k]?) : w'.ownsRow B T m v n xs := by
  refine ⟨h.1, ?_⟩
  rcases h.2 with hn | ⟨g, cap, cur, rfl, hb, hg, rest⟩
  · exact Or.inl hn
  · exact Or.inr ⟨g, cap, cur, rfl, hb, by rw [e g rfl]; exact hg, rest⟩
def keyB (x : ByteArray) : Lit := .string x.data.toList
theorem keyB_key (x : ByteArray) : WideAt.IsKeyLit (keyB x) := trivial
theorem keyB_inj {x y : ByteArray} (h : keyB x = keyB y) : x = y := by
  unfold keyB at h
  simp only [Lit.string.injEq] at h
  apply ByteArray.ext
  exact Array.toList_inj.1 h
theorem law_strT : Keyed Tryz.prog 9 := string_keyed Tryz.underlying9
theorem key_str (x : ByteArray) (h : x.size ≤ maxLen) : keyOf Tryz.prog 9 (.string x) = some (keyB x) := WideMaps.keyOf_string_mk Tryz.underlying9 h
end Go.Proofs.YtcfgacdcgljbaaaGreatDoor
