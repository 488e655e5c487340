/- The walk of tallymankeep.small. -/
import Derived.Test.YtcfgacdcgljbaaaBnQ
import Derived.Test.YtcfgacdcgljbaaaActsOpen
namespace Go.Proofs.Ytcfgacdcgljbaaa
open Go.RowKit
/-- It tells a Bool: true only where there are at most n. -/
def AtMost (n : Nat) (l : List Ac) (e : Ending) : Prop := ∃ bb : Bool, e = .returned (.bool bb) ∧ (bb = true → l.length ≤ n)
set_option maxRecDepth 20000 in
set_option maxHeartbeats 2000000 in
theorem small_any (l : List Ac) (ao : Option Addr) (cap : Nat) (w : World) (h : ActsAt w ao l) (hm : l.length ≤ maxLen) :
    Calls Try.prog 4 #[.slice ao l.length cap] w fun e w' => AtMost 40 l e ∧ w' = w := by
  unfold maxLen at hm
  by_cases h40 : l.length ≤ 40
  · have hnn : ¬ (40 : Int) < (l.length : Int) := by omega
    go_enter Try.func4, Try.ntmps4
    go_wp2
    go_loop [3] (fun i => ∃ k : Nat, k ≤ l.length ∧ i = .int .i64 k) (fun i => l.length - (intOf i).toNat)
    case atStart => exact ⟨0, Nat.zero_le _, rfl⟩
    case round =>
      obtain ⟨k, hk, rfl⟩ := hrel
      by_cases hlt : k < l.length
      · obtain ⟨b, off, rfl, hb, hc⟩ := h.2 (by omega)
        have hcx := hc k hlt 3 (by decide)
        simp only [acC, List.getElem?_cons_zero, List.getElem?_cons_succ] at hcx
        have hs : l[k].e.item.size ≤ maxLen := (h.1 _ (List.getElem_mem hlt)).item
        generalize l[k].e.item = s at hcx hs
        unfold maxLen at hs
        have hkz : (k : Int) < (l.length : Int) := by omega
        clear hc h
        by_cases h60 : 60 < s.size
        · go_wp2
          go_ret
          exact ⟨⟨false, rfl, fun h => (by cases h)⟩, rfl⟩
        · go_wp2
          go_round
          case rel => exact ⟨k + 1, by omega, by go_num⟩
          case measure => simp [intOf]; omega
      · go_wp2
        go_ret
        exact ⟨⟨true, rfl, fun _ => h40⟩, rfl⟩
  · have hnn : (40 : Int) < (l.length : Int) := by omega
    go_enter Try.func4, Try.ntmps4
    go_wp2
    go_ret
    exact ⟨⟨false, rfl, fun h => (by cases h)⟩, rfl⟩
end Go.Proofs.Ytcfgacdcgljbaaa
