/- Two amounts as texts. -/
import Derived.Test.YtppamojkhkdfpaaDoorMoneyPrint
namespace Go.Proofs.YtppamojkhkdfpaaDoor
theorem amt_500 : amt 500 = [53, 46, 48, 48] := by
  unfold amt amtSize
  simp [wdN_small, dg, dv]
theorem amt_70 : amt 70 = [48, 46, 55, 48] := by
  unfold amt amtSize
  simp [wdN_small, dg, dv]
end Go.Proofs.YtppamojkhkdfpaaDoor
