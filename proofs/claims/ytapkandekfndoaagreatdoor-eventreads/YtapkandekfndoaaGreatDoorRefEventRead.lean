/- The walk of tallymanref.ParseEvent: it reads just what event.Parse reads. -/
import Derived.Test.YtapkandekfndoaaGreatDoorRefText
import Derived.Test.YtapkandekfndoaaGreatDoorEventParse
import Derived.Test.YtapkandekfndoaaGreatDoorRefParse
import Derived.Test.YtapkandekfndoaaGreatDoorRefDateRead
import Derived.ArgAppend
namespace Go.Proofs.YtapkandekfndoaaGreatDoor
open Go.RowKit
/-- What strconv.Atoi gives as a number, error or not. -/
def numR (l : List UInt8) : Int := match Lib.atoiAll l with
  | .ok v => v
  | .syntax => 0
  | .range => Lib.atoiSat l
theorem numR_bd (l : List UInt8) : -9223372036854775808 ≤ numR l ∧ numR l ≤ 9223372036854775807 := by
  unfold numR
  rcases e : Lib.atoiAll l with v | _ | _
  · exact Lib.atoiAll_bounds e
  · show -9223372036854775808 ≤ (0 : Int) ∧ (0 : Int) ≤ 9223372036854775807; omega
  · show -9223372036854775808 ≤ Lib.atoiSat l ∧ Lib.atoiSat l ≤ 9223372036854775807
    unfold Lib.atoiSat
    split <;> omega
theorem atoiR (s : ByteArray) (w : World) (hg : Glob w) (hs : s.size ≤ 281474976710656) :
    Calls Tryz.prog 47 #[.string s] w fun e w' => ∃ v : Value, e = .returned (.tuple #[.int .i64 (numR s.data.toList), v]) ∧ Below w.heap.size w w' := by
  obtain ⟨tp, p, hsyn⟩ := hg.syn
  obtain ⟨tr, r, hrng⟩ := hg.rng
  unfold numR
  rcases h : Lib.atoiAll s.data.toList with v | _ | _
  · refine (Tryz.strconv_Atoi_ok s (by omega) v h w).mono fun e w' ⟨he, hw⟩ => ?_
    refine ⟨_, he, ?_⟩
    rcases hw with rfl | ⟨t, rfl⟩
    · exact Below.refl _ _
    · exact Go.Joins.below_bytesWorld _ _ _ _ (Nat.le_refl _)
  · refine (Any.strconv_Atoi_syntax_var Tryz.laysC172 s hs h tp p w hsyn).mono fun e w' ⟨N, he, _, _, hb⟩ => ?_
    exact ⟨_, he, hb⟩
  · refine (Tryz.strconv_Atoi_range_var s hs h tr r w hrng).mono fun e w' ⟨N, he, _, _, hb⟩ => ?_
    exact ⟨_, he, hb⟩
def dayR (l : List UInt8) : Int := (dparsed l).getD 0
def amtR (l : List UInt8) : Int := (parsed l).getD 0
theorem dateR (s : ByteArray) (w : World) (hg : Glob w) (hs : s.size ≤ 300) :
    Calls Tryz.prog 26 #[.string s] w fun e w' => ∃ v : Value, e = .returned (.tuple #[.int .i64 (dayR s.data.toList), v]) ∧ Below w.heap.size w w' := by
  unfold dayR
  rcases h : dparsed s.data.toList with _ | n
  · exact (rparse_bad s w hg hs h).mono fun e w' ⟨he, hb⟩ => ⟨_, he, hb⟩
  · exact (rparse_ok s n w hg h).mono fun e w' ⟨he, hb⟩ => ⟨_, he, hb⟩
theorem amountR (s : ByteArray) (w : World) (hg : Glob w) (hs : s.size ≤ 300) :
    Calls Tryz.prog 14 #[.string s] w fun e w' => ∃ v : Value, e = .returned (.tuple #[.int .i64 (amtR s.data.toList), v]) ∧ Below w.heap.size w w' := by
  unfold amtR
  rcases h : parsed s.data.toList with _ | n
  · exact (refParse_bad s w hg hs h).mono fun e w' ⟨he, hb⟩ => ⟨_, he, hb⟩
  · exact (refParse_ok s n w hg h).mono fun e w' ⟨he, hb⟩ => ⟨_, he, hb⟩
/-- The event that the parts of a text make, as the document's own answer reads them. -/
def rread (ps : List (List UInt8)) : Ev :=
  { id := 0, day := dayR (ps.getD 0 []), kind := kindOf (ps.getD 1 []), item := eb (ps.getD 2 []),
    qty := if kindOf (ps.getD 1 []) = 2 then 0 else numR (ps.getD 3 []),
    price := if kindOf (ps.getD 1 []) = 1 then amtR (ps.getD 5 []) else if kindOf (ps.getD 1 []) = 2 then amtR (ps.getD 3 []) else 0,
    ofI := if kindOf (ps.getD 1 []) = 2 then numR (ps.getD 5 []) else 0 }
theorem numR_itoa (n : Int) (h : 0 ≤ n) (h' : n ≤ 9223372036854775807) : numR (Lib.itoa n) = n := by
  unfold numR; rw [atoi_itoa n h h']
theorem rread_ET (e : Ev) (h : Rt e) : rread (ps (ET e)) = { e with id := 0 } := by
  rw [ps_ET e h, ps_nums h.2.2]
  obtain ⟨hn, ⟨d0, d1⟩, hk⟩ := h
  obtain ⟨id, item, kind, qty, price, ofI, day⟩ := e
  simp only at hn d0 d1 hk ⊢
  have hd : dayR (bts (DT day)) = day := by unfold dayR; rw [dparsed_DT d0 d1]; rfl
  have hw := kindOf_word (rtK_kind hk)
  have hp : 0 ≤ price → price ≤ 100000000000 → amtR (byt (amt price)) = price := by
    intro a b; unfold amtR; rw [parsed_amt price (by omega) (by omega)]; rfl
  rcases hk with ⟨rfl, ⟨a, b⟩, ⟨c, d⟩, rfl⟩ | ⟨rfl, rfl, ⟨c, d⟩, ⟨f, g⟩⟩ | ⟨rfl, ⟨a, b⟩, rfl, rfl⟩ | ⟨rfl, ⟨a, b⟩, rfl, rfl⟩
  · simp [rread, hd, hw, eb_data, numR_itoa qty (by omega) (by omega), hp c (by omega)]
  · simp [rread, hd, hw, eb_data, numR_itoa ofI (by omega) (by omega), hp (by omega) (by omega)]
  · simp [rread, hd, hw, eb_data, numR_itoa qty (by omega) (by omega)]
  · simp [rread, hd, hw, eb_data, numR_itoa qty (by omega) (by omega)]
theorem reads_rread {l : List UInt8} {e : Ev} (h : Reads l e) : rread (ps l) = e := by
  obtain ⟨h1, h2, rfl⟩ := h
  rw [rread_ET e h1]
  obtain ⟨id, item, kind, qty, price, ofI, day⟩ := e
  simp only at h2
  rw [h2]
def breadR (l : List ByteArray) : Ev := rread (l.map fun b => b.data.toList)
theorem breadR_ps (s : ByteArray) : breadR (parts s) = rread (ps s.data.toList) := by unfold breadR; rw [parts_ps]
theorem amtR_bd (l : List UInt8) : -9223372036854775808 ≤ amtR l ∧ amtR l ≤ 9223372036854775807 := by
  unfold amtR
  rcases e : parsed l with _ | n
  · show -9223372036854775808 ≤ (0 : Int) ∧ (0 : Int) ≤ 9223372036854775807; omega
  · have := parsed_some e
    show -9223372036854775808 ≤ n ∧ n ≤ 9223372036854775807; omega
theorem dayR_bd (l : List UInt8) : -9223372036854775808 ≤ dayR l ∧ dayR l ≤ 9223372036854775807 := by
  unfold dayR
  rcases e : dparsed l with _ | n
  · show -9223372036854775808 ≤ (0 : Int) ∧ (0 : Int) ≤ 9223372036854775807; omega
  · have := dparsed_some e
    show -9223372036854775808 ≤ n ∧ n ≤ 9223372036854775807; omega
theorem rread_w (ps : List (List UInt8)) (h : (ps.getD 2 []).length ≤ 1000) : EvW (rread ps) := by
  have k := kindOf_bd (ps.getD 1 [])
  have d := dayR_bd (ps.getD 0 [])
  have n3 := numR_bd (ps.getD 3 [])
  have n5 := numR_bd (ps.getD 5 [])
  have m3 := amtR_bd (ps.getD 3 [])
  have m5 := amtR_bd (ps.getD 5 [])
  refine ⟨wf_of (show -9223372036854775808 ≤ (0 : Int) by decide) (show (0 : Int) ≤ 9223372036854775807 by decide), ?_, wf_of (by show _ ≤ kindOf _; omega) (by show kindOf _ ≤ _; omega), ?_, ?_, ?_, wf_of d.1 d.2⟩
  · show (eb (ps.getD 2 [])).size ≤ maxLen
    have e : (eb (ps.getD 2 [])).size = (ps.getD 2 []).length := by rw [← dba_len]; rfl
    rw [e]; unfold maxLen; omega
  · show (Lit.int .i64 (if _ then _ else _)).wf = true
    split
    · exact wf_of (by decide) (by decide)
    · exact wf_of n3.1 n3.2
  · show (Lit.int .i64 (if _ then _ else _)).wf = true
    split
    · exact wf_of m5.1 m5.2
    · split
      · exact wf_of m3.1 m3.2
      · exact wf_of (by decide) (by decide)
  · show (Lit.int .i64 (if _ then _ else _)).wf = true
    split
    · exact wf_of n5.1 n5.2
    · exact wf_of (by decide) (by decide)
theorem breadR_w (s : ByteArray) (hs : s.size ≤ 300) : EvW (breadR (parts s)) := by
  apply rread_w
  rw [getD_map, dba_len]
  have := ps_short s 2; omega
/-- The parts and six empty texts behind them. -/
def olds6 (l : List ByteArray) : List Value := l.map Value.string ++ List.replicate 6 (.string ⟨#[]⟩)
theorem olds6_at (l : List ByteArray) (j : Nat) (hj : j < 6) : (olds6 l)[j]? = some (.string (l.getD j ⟨#[]⟩)) := by
  unfold olds6
  rw [List.getElem?_append]
  split
  · rename_i h
    have h' : j < l.length := by simpa using h
    simp [List.getD, h']
  · rename_i h
    have h' : l.length ≤ j := by simpa using h
    rw [List.getElem?_replicate]
    rw [if_pos (by simp; omega), List.getD, List.getElem?_eq_none h']; rfl
end Go.Proofs.YtapkandekfndoaaGreatDoor
