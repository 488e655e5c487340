/- What a result's map tells of an item. -/
import Derived.Test.YtppamojkhkdfpaaGreatDoorCoSum
namespace Go.Proofs.YtppamojkhkdfpaaGreatDoor.costApart
open Go.Proofs.YtppamojkhkdfpaaGreatDoor
open Go.RowKit Go.Shelf Go.Maps
theorem lookV {B : Nat} {W : World} {mb n : Nat} {D : DataW Value} {V : ByteArray → Value} {M : Stks} {u : Value} {ls : List Lin} (h : RunRes B W mb n D V M u ls) (x : ByteArray) (hx : x.size ≤ maxLen) :
    (Instr.lookup 104 (.map (some mb)) (.string x) false).run Tryz.prog W = .ok (if (M x).ys.isEmpty then .slice none 0 0 else V x) W := by
  obtain ⟨v, ps, h1, h2⟩ := h.map.lookup law_strT Tryz.underlying104 (zero_lays W) (zd := .held (.slice none 0 0)) (zp := []) rfl (key_str x hx)
  have h3 := heldE_inv h2
  by_cases e : (M x).ys = []
  · rw [atKey_of_not_has (h.no x e)] at h3
    rw [h1, ← held_inj h3, e]
    rfl
  · rw [h.yes x e] at h3
    rw [h1, ← held_inj h3, if_neg (by simpa using e)]
theorem lookL {B : Nat} {W : World} {mb n : Nat} {D : DataW Value} {V : ByteArray → Value} {M : Stks} {u : Value} {ls : List Lin} (h : RunRes B W mb n D V M u ls) (x : ByteArray) : LayAt W (if (M x).ys.isEmpty then .slice none 0 0 else V x) (M x).ys := by
  by_cases e : (M x).ys = []
  · rw [if_pos (by simpa using e), e]; exact LayAt.nil W
  · rw [if_neg (by simpa using e)]; exact h.lay x
end Go.Proofs.YtppamojkhkdfpaaGreatDoor.costApart
