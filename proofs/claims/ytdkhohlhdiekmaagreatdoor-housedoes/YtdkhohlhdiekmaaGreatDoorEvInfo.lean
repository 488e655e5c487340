/-  -/
import Derived.Test.YtdkhohlhdiekmaaGreatDoorBnD
namespace Go.Proofs.YtdkhohlhdiekmaaGreatDoor
open Go.RowKit
def evZ:Value:=.agg #[.int .i64 0,.string ⟨#[]⟩,.int .i64 0,.int .i64 0,.int .i64 0,.int .i64 0,.int .i64 0]
theorem Tryz.infoEv:(Tryz.prog.info? 78).map (fun i=>(i.zero,i.size,i.bytes))=some (some evZ,7,64):=by kernel_rfl
end Go.Proofs.YtdkhohlhdiekmaaGreatDoor
