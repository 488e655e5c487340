/- The walk of (*book.Book).Turn. The walk of tallymankeep.pick: a number below n, whatever a is. -/
import Derived.Test.YtcfgacdcgljbaaaBookMem
import Derived.Test.YtcfgacdcgljbaaaRows
import Derived.WalkKit
import Derived.ProofKit
import Derived.OpenShut
import Derived.WalkSpells
namespace Go.Proofs.Ytcfgacdcgljbaaa
open Go.RowKit
set_option maxHeartbeats 1000000 in
theorem turn_any {B pb : Nat} {sv : Value} {b : Bk} {w : World} (h : BookAt w B pb sv b) :
    Calls Try.prog 7 #[.pointer (some ⟨pb, 0, none⟩)] w fun e w' => e = .returned (.int .i64 b.n) ∧ w' = w := by
  have c1 := h.c1
  clear h
  go_enter Try.func7, Try.ntmps7
  go_wp2
  go_ret
  exact ⟨rfl, rfl⟩
end Go.Proofs.Ytcfgacdcgljbaaa
namespace Go.Proofs.Ytcfgacdcgljbaaa
open Go.RowKit
def pk (a n : Int) : Int := a % 18446744073709551616 % n
theorem pk_bd (a n : Int) (h : 1 ≤ n) : 0 ≤ pk a n ∧ pk a n < n := by
  unfold pk
  exact ⟨Int.emod_nonneg _ (by omega), Int.emod_lt_of_pos _ (by omega)⟩
theorem pick_eq (a n : Int) (h : 1 ≤ n) (h' : n ≤ 4000000000000000000) : wrap64 ((IntKind.u64.wrap a).tmod n) = pk a n := by
  have hb := pk_bd a n h
  have e : (IntKind.u64.wrap a).tmod n = pk a n := by
    rw [IntKind.wrap_u64, Int.tmod_eq_emod_of_nonneg (by omega)]; rfl
  rw [e]; exact IntWalk.wrap64_in _ ⟨by omega, by omega⟩
theorem pick_any (a n : Int) (w : World) (h : 1 ≤ n) (h' : n ≤ 4000000000000000000) :
    Calls Try.prog 8 #[.int .i64 a, .int .i64 n] w fun e w' => e = .returned (.int .i64 (pk a n)) ∧ w' = w := by
  go_enter Try.func8, Try.ntmps8
  go_wp2
  go_ret
  exact ⟨congrArg (fun x => Ending.returned (.int .i64 x)) (pick_eq a n h h'), rfl⟩
end Go.Proofs.Ytcfgacdcgljbaaa
