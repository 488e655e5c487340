/- How an event lies in memory. -/
import Derived.Test.YtppamojkhkdfpaaDoorBnD
namespace Go.Proofs.YtppamojkhkdfpaaDoor
open Go.RowKit
def evZ : Value := .agg #[.int .i64 0, .string ⟨#[]⟩, .int .i64 0, .int .i64 0, .int .i64 0, .int .i64 0, .int .i64 0]
theorem Tryd.infoEv : (Tryd.prog.info? 24).map (fun i => (i.zero, i.size, i.bytes)) = some (some evZ, 7, 64) := by kernel_rfl
end Go.Proofs.YtppamojkhkdfpaaDoor
