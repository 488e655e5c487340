/- Which events may be, in plain mathematics. No walk. -/
import Derived.Test.YtppamojkhkdfpaaDoorBase
namespace Go.Proofs.YtppamojkhkdfpaaDoor
/-- What an event's fields hold. -/
structure Ev where
  id : Int
  item : ByteArray
  kind : Int
  qty : Int
  price : Int
  ofI : Int
  day : Int
  deriving Inhabited
def isLet (c : UInt8) : Prop := 97 ≤ c.toNat ∧ c.toNat ≤ 122
def isDig (c : UInt8) : Prop := 48 ≤ c.toNat ∧ c.toNat ≤ 57
def isName (l : List UInt8) : Prop := (1 ≤ l.length ∧ l.length ≤ 10) ∧ (∀ c, l.head? = some c → isLet c) ∧ ∀ c ∈ l, isLet c ∨ isDig c
def rtK (k q p o : Int) : Prop :=
  (k = 1 ∧ (1 ≤ q ∧ q ≤ 100000) ∧ (0 ≤ p ∧ p ≤ 1000000) ∧ o = 0) ∨ (k = 2 ∧ q = 0 ∧ (1 ≤ p ∧ p ≤ 100000000000) ∧ (1 ≤ o ∧ o ≤ 9223372036854775807))
  ∨ (k = 3 ∧ (1 ≤ q ∧ q ≤ 100000) ∧ p = 0 ∧ o = 0) ∨ (k = 4 ∧ (0 ≤ q ∧ q ≤ 100000) ∧ p = 0 ∧ o = 0)
/-- The event may be. -/
def Rt (e : Ev) : Prop := isName e.item.data.toList ∧ (0 ≤ e.day ∧ e.day ≤ 99999) ∧ rtK e.kind e.qty e.price e.ofI
theorem hidE {p : Prop} (h : p) : RowKit.Hid p := h
theorem eba_len (x : ByteArray) : x.data.toList.length = x.size := by simp
theorem ebh_is (s : ByteArray) (h : 0 < s.size) : s.data.toList.head? = some s[0] := by
  rw [List.head?_eq_getElem?, List.getElem?_eq_getElem (by simpa using h)]; rfl
end Go.Proofs.YtppamojkhkdfpaaDoor
