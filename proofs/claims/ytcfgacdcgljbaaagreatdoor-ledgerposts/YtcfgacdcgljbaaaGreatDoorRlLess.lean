/- The walk of tallymanref.Trial$1. -/
import Derived.Test.YtcfgacdcgljbaaaGreatDoorRlTrial
namespace Go.Proofs.YtcfgacdcgljbaaaGreatDoor
open Go.RowKit
theorem tless_any (g off n c ob i j : Nat) (a b : ByteArray) (W : World) (hi : i < n) (hj : j < n) (hb : W.cell? ⟨ob, 0, none⟩ = some (.slice (some ⟨g, off, none⟩) n c)) (h1 : W.cell? ⟨g, off + i * 2, none⟩ = some (.string a)) (h2 : W.cell? ⟨g, off + j * 2, none⟩ = some (.string b)) :
    Calls Tryz.prog 73 (#[.int .i64 i, .int .i64 j] ++ #[.pointer (some ⟨ob, 0, none⟩)]) W fun e w' => e = .returned (.bool (Op.bytesLess a.toList b.toList)) ∧ ∃ q, w' = W.drewN q := by
  have hiz : (i : Int) < (n : Int) := by omega
  have hjz : (j : Int) < (n : Int) := by omega
  have mixed : Tryz.prog.follows .mixedOrders = true := by kernel_rfl
  go_enter Tryz.func73, Tryz.ntmps73
  go_wp2_with fail
  go_quiet (fail)
  go_wp2
  go_ret
  exact ⟨rfl, nq, rfl⟩
end Go.Proofs.YtcfgacdcgljbaaaGreatDoor
