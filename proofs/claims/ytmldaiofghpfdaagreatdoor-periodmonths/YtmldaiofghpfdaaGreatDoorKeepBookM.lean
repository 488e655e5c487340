/- A book that is new; rows of one event, and of none. -/
import Derived.Test.YtmldaiofghpfdaaGreatDoorBookAct
import Derived.Test.YtmldaiofghpfdaaGreatDoorBookAs
namespace Go.Proofs.YtmldaiofghpfdaaGreatDoor
open Go.RowKit
def bk0 : Bk := ⟨[], 0, 0⟩
theorem srt_one (x : Ev) : srt [x] = [x] := List.perm_singleton.1 (srt_perm [x])
theorem srt_nil : srt [] = [] := List.length_eq_zero_iff.1 (by rw [srt_len]; rfl)
theorem book_new (w : World) (B : Nat) (hB : B ≤ w.heap.size) : BookAt (w.alloc (.cells #[.slice none 0 0, .int .i64 0, .int .i64 0] 27)) B w.heap.size (.slice none 0 0) bk0 :=
  ⟨by simp, by simp [bk0], by simp [bk0], by simp, by simp, by simp, World.ownsRow_nil _ _ _ _, by simp [Value.ownBlock], hB⟩
end Go.Proofs.YtmldaiofghpfdaaGreatDoor
