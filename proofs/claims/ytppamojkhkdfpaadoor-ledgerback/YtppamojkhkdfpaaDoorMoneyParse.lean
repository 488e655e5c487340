/- The walk of money.Parse. -/
import Derived.Test.YtppamojkhkdfpaaDoorMoneyValue
namespace Go.Proofs.YtppamojkhkdfpaaDoor
open Go.RowKit
theorem eql_iff (a b : ByteArray) : (a.toList == b.toList) = decide (a.data.toList = b.data.toList) := by
  rw [ByteArray.toList_eq, ByteArray.toList_eq, Bool.eq_iff_iff]; simp
/-- What Parse reads: a number, or nothing. -/
def parsed (l : List UInt8) : Option Int :=
  if l.length ≤ 15 ∧ -1000000000000 ≤ sval l ∧ sval l ≤ 1000000000000 ∧ byt (amt (sval l)) = l then some (sval l) else none
theorem parsed_some {l : List UInt8} {n : Int} (h : parsed l = some n) : l.length ≤ 15 ∧ -1000000000000 ≤ n ∧ n ≤ 1000000000000 ∧ byt (amt n) = l ∧ n = sval l := by
  unfold parsed at h
  split at h
  · rename_i hh; simp at h; subst h; exact ⟨hh.1, hh.2.1, hh.2.2.1, hh.2.2.2, rfl⟩
  · simp at h
set_option maxHeartbeats 1000000 in
theorem parse_ok (s : ByteArray) (n : Int) (w : World) (h : parsed s.data.toList = some n) :
    Calls Tryd.prog 45 #[.string s] w fun e w' => e = .returned (.tuple #[.int .i64 n, .nilIface]) ∧ Below w.heap.size w w' := by
  obtain ⟨h1, h2, h3, h4, rfl⟩ := parsed_some h
  have h15 : s.size ≤ 15 := by simpa using h1
  have hcmp : ((strOfNums (amt (sval s.data.toList))).toList == s.toList) = true := by
    rw [eql_iff]; exact decide_eq_true h4
  clear h h1 h4
  go_enter Tryd.func45, Tryd.ntmps45
  go_wp2_with (first | (go_at_call 66; refine (value_any s _ h15).mono ?_; rintro e w' ⟨rfl, rfl⟩) | (go_at_call 26; refine (print_any _ _ (by omega) (by omega)).mono ?_; rintro e w1 ⟨rfl, hb1⟩))
  go_ret2
  exact ⟨rfl, hb1⟩
set_option maxHeartbeats 1000000 in
theorem parse_bad (s : ByteArray) (w : World) (hs : s.size ≤ maxLen) (h : parsed s.data.toList = none) :
    Calls Tryd.prog 45 #[.string s] w fun e w' => e = .returned (.tuple #[.int .i64 0, .iface 72 (.int .i64 3)]) ∧ Below w.heap.size w w' := by
  unfold maxLen at hs
  by_cases h15 : s.size ≤ 15
  · have hb := sval_bd s.data.toList (by simpa using h15)
    by_cases h2 : -1000000000000 ≤ sval s.data.toList
    · by_cases h3 : sval s.data.toList ≤ 1000000000000
      · have hcmp : ((strOfNums (amt (sval s.data.toList))).toList == s.toList) = false := by
          rw [eql_iff]; apply decide_eq_false; intro h4
          unfold parsed at h; rw [if_pos ⟨by simpa using h15, h2, h3, h4⟩] at h; simp at h
        clear h
        go_enter Tryd.func45, Tryd.ntmps45
        go_wp2_with (first | (go_at_call 66; refine (value_any s _ h15).mono ?_; rintro e w' ⟨rfl, rfl⟩) | (go_at_call 26; refine (print_any _ _ (by omega) (by omega)).mono ?_; rintro e w1 ⟨rfl, hb1⟩))
        go_ret2
        exact ⟨rfl, hb1⟩
      · clear h
        go_enter Tryd.func45, Tryd.ntmps45
        go_wp2_with (first | (go_at_call 66; refine (value_any s _ h15).mono ?_; rintro e w' ⟨rfl, rfl⟩))
        go_ret2
        exact ⟨rfl, Below.refl _ _⟩
    · clear h
      go_enter Tryd.func45, Tryd.ntmps45
      go_wp2_with (first | (go_at_call 66; refine (value_any s _ h15).mono ?_; rintro e w' ⟨rfl, rfl⟩))
      go_ret2
      exact ⟨rfl, Below.refl _ _⟩
  · clear h
    go_enter Tryd.func45, Tryd.ntmps45
    go_wp2
    go_ret2
    exact ⟨rfl, Below.refl _ _⟩
end Go.Proofs.YtppamojkhkdfpaaDoor
