/- What the functions that tallymanlaw.EventReads sets side by side tell: the same. -/
import Derived.Test.YtapkandekfndoaaGreatDoorRefEventDone
import Derived.Test.YtapkandekfndoaaGreatDoorEventCompare
namespace Go.Proofs.YtapkandekfndoaaGreatDoor
open Go.RowKit
/-- What the walks ask of the package-level variables. -/
structure GlobL (w : World) : Prop where
  lib : Glob w
  len : LenTab w
  wrd : WordTab w
theorem GlobL.below {w w' : World} (h : GlobL w) (hb : Below w.heap.size w w') : GlobL w' := ⟨h.lib.below hb, h.len.below hb, h.wrd.below hb⟩
theorem GlobL.ev {w : World} (h : GlobL w) : GlobE w := ⟨h.lib.num, h.len, h.wrd⟩
/-- Two functions give the same values, and the second's error is the first's. -/
def PairL (fr fm : Nat) (args : Array Value) (x : Value) : Prop := ∃ (k : Int) (ev : Value),
  (∀ W, GlobL W → Calls Tryz.prog fr args W fun e W' => e = .returned (.tuple #[x, .int .i64 k]) ∧ Below W.heap.size W W') ∧
  (∀ W, GlobL W → Calls Tryz.prog fm args W fun e W' => e = .returned (.tuple #[x, ev]) ∧ Below W.heap.size W W') ∧
  (∀ W, GlobL W → Calls Tryz.prog 8 #[ev, .int .i64 k] W fun e W' => e = .returned (.bool true) ∧ Below W.heap.size W W')
theorem bnL (W : World) (_ : GlobL W) : Calls Tryz.prog 8 #[.nilIface, .int .i64 0] W fun e W' => e = .returned (.bool true) ∧ Below W.heap.size W W' := bare_nil W
theorem beL (k : Int) (W : World) (h : GlobL W) : Calls Tryz.prog 8 #[.iface 23 (.int .i64 k), .int .i64 k] W fun e W' => e = .returned (.bool true) ∧ Below W.heap.size W W' := bare_errno k W h.lib.et
theorem text_pair (e : Ev) (hw : EvW e) : ∃ t, PairL 34 35 #[evV e] (.string t) := by
  rcases Classical.em (Rt e) with h | h
  · exact ⟨_, 0, .nilIface, fun W hg => rtext_ok e W hg.lib hw h, fun W hg => eprint_ok e W hg.ev hw h, bnL⟩
  · exact ⟨_, 1, .iface 23 (.int .i64 1), fun W _ => rtext_bad e W hw h, fun W _ => eprint_bad e W hw h, beL 1⟩
theorem event_pair (s : ByteArray) (hs : s.size ≤ 200) : ∃ y, PairL 36 37 #[.string s] (evV y) := by
  rcases reads_or s.data.toList with ⟨y, h⟩ | h
  · exact ⟨y, 0, .nilIface, fun W hg => revent_ok s y W hg.lib (by omega) h, fun W hg => eparse_ok s y W hg.ev (by omega) h, bnL⟩
  · exact ⟨ev0, 3, .iface 23 (.int .i64 3), fun W hg => revent_bad s W hg.lib (by omega) h, fun W hg => eparse_bad s W hg.ev (by omega) h, beL 3⟩
theorem tells_one (p : Prop) : ∃ b : Bool, ∀ x, Tells x p → x = .returned (.bool b) := by
  rcases Classical.em p with h | h
  · exact ⟨true, fun x ⟨b, hx, hb⟩ => by rw [hx, hb.2 h]⟩
  · refine ⟨false, fun x ⟨b, hx, hb⟩ => ?_⟩
    cases b
    · exact hx
    · exact absurd (hb.1 rfl) h
theorem tells_yes {x : Ending} {p : Prop} (hp : p) (h : Tells x p) : x = .returned (.bool true) := by
  obtain ⟨b, hx, hb⟩ := h
  rw [hx, hb.2 hp]
theorem tells_no {x : Ending} {p : Prop} (hp : ¬ p) (h : Tells x p) : x = .returned (.bool false) := by
  obtain ⟨b, hx, hb⟩ := h
  cases b
  · exact hx
  · exact absurd (hb.1 rfl) hp
theorem right_pair (e : Ev) (hw : EvW e) : ∃ b : Bool,
    (∀ W, Calls Tryz.prog 29 #[evV e] W fun x W' => x = .returned (.bool b) ∧ Below W.heap.size W W') ∧
    (∀ W, Calls Tryz.prog 30 #[evV e] W fun x W' => x = .returned (.bool b) ∧ Below W.heap.size W W') := by
  obtain ⟨b, hb⟩ := tells_one (Rt e)
  exact ⟨b, fun W => (right_any e W hw).mono fun x W' h => ⟨hb x h.1, h.2⟩, fun W => (rright_any e W hw).mono fun x W' h => ⟨hb x h.1, h.2⟩⟩
theorem name_pair (s : ByteArray) (hs : s.size ≤ maxLen) : ∃ b : Bool,
    (∀ W, Calls Tryz.prog 31 #[.string s] W fun x W' => x = .returned (.bool b) ∧ Below W.heap.size W W') ∧
    (∀ W, Calls Tryz.prog 32 #[.string s] W fun x W' => x = .returned (.bool b) ∧ Below W.heap.size W W') := by
  obtain ⟨b, hb⟩ := tells_one (isName s.data.toList)
  refine ⟨b, fun W => (name_any s W hs).mono fun x W' h => ⟨hb x h.1, ?_⟩, fun W => (rname_any s W hs).mono fun x W' h => ⟨hb x h.1, ?_⟩⟩
  · rw [h.2]; exact Below.refl _ _
  · rw [h.2]; exact Below.refl _ _
/-- How ref.Ahead, asked both ways round, and event.Compare fit. -/
theorem order_pair (x y : Ev) :
    ((∀ W, Calls Tryz.prog 28 #[evV x, evV y] W fun e W' => e = .returned (.bool true) ∧ Below W.heap.size W W') ∧
      (∀ W, Calls Tryz.prog 33 #[evV x, evV y] W fun e W' => e = .returned (.int .i64 (-1)) ∧ Below W.heap.size W W')) ∨
    ((∀ W, Calls Tryz.prog 28 #[evV x, evV y] W fun e W' => e = .returned (.bool false) ∧ Below W.heap.size W W') ∧
      (∀ W, Calls Tryz.prog 28 #[evV y, evV x] W fun e W' => e = .returned (.bool false) ∧ Below W.heap.size W W') ∧
      (∀ W, Calls Tryz.prog 33 #[evV x, evV y] W fun e W' => e = .returned (.int .i64 0) ∧ Below W.heap.size W W')) ∨
    ((∀ W, Calls Tryz.prog 28 #[evV x, evV y] W fun e W' => e = .returned (.bool false) ∧ Below W.heap.size W W') ∧
      (∀ W, Calls Tryz.prog 28 #[evV y, evV x] W fun e W' => e = .returned (.bool true) ∧ Below W.heap.size W W') ∧
      (∀ W, Calls Tryz.prog 33 #[evV x, evV y] W fun e W' => e = .returned (.int .i64 1) ∧ Below W.heap.size W W')) := by
  rcases cmpE_cases x y with ⟨h, e⟩ | ⟨h, e⟩ | ⟨h, e⟩
  · left
    exact ⟨fun W => (ahead_any x y W).mono fun r W' k => ⟨tells_yes h k.1, k.2⟩, fun W => by rw [← e]; exact compare_any x y W⟩
  · right; left
    exact ⟨fun W => (ahead_any x y W).mono fun r W' k => ⟨tells_no (by unfold Ahd; omega) k.1, k.2⟩, fun W => (ahead_any y x W).mono fun r W' k => ⟨tells_no (by unfold Ahd; omega) k.1, k.2⟩, fun W => by rw [← e]; exact compare_any x y W⟩
  · right; right
    exact ⟨fun W => (ahead_any x y W).mono fun r W' k => ⟨tells_no (by unfold Ahd at *; omega) k.1, k.2⟩, fun W => (ahead_any y x W).mono fun r W' k => ⟨tells_yes h k.1, k.2⟩, fun W => by rw [← e]; exact compare_any x y W⟩
end Go.Proofs.YtapkandekfndoaaGreatDoor
