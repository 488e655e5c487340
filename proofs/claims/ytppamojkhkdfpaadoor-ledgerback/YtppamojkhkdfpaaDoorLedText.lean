/- Postings as texts, in plain mathematics. -/
import Derived.Test.YtppamojkhkdfpaaDoorLedM
import Derived.Test.YtppamojkhkdfpaaDoorMoneyPrint
namespace Go.Proofs.YtppamojkhkdfpaaDoor
open Go.RowKit
/-- A posting's line. -/
def pline (p : Pst) : List UInt8 := byt (amt p.amt) ++ [32] ++ p.deb.data.toList ++ [32, 102, 114, 111, 109, 32] ++ p.cre.data.toList ++ [10]
def printL (ps : List Pst) : List UInt8 := ps.flatMap pline
theorem strOf_byt (l : List Int) : (strOfNums l).data.toList = byt l := by simp [strOfNums, byt]
theorem amt_len (n : Int) (h0 : -9223372036854775808 ≤ n) (h1 : n ≤ 9223372036854775807) : (amt n).length ≤ 25 := by
  unfold amt amtSize
  have := wdN_le 20 (n.natAbs / 100) (by omega) (by omega)
  rw [List.length_append, List.length_append, List.length_cons, dg_length, dg_length]
  split <;> simp <;> omega
theorem amt_strsize (n : Int) (h0 : -9223372036854775808 ≤ n) (h1 : n ≤ 9223372036854775807) : (strOfNums (amt n)).size ≤ 25 := by
  rw [strOfNums_size]; exact amt_len n h0 h1
theorem pline_len (p : Pst) (h : I64 p.amt) (hd : p.deb.size ≤ 1000) (hc : p.cre.size ≤ 1000) : (pline p).length ≤ 2100 := by
  have := amt_len p.amt h.1 h.2
  have e1 : p.deb.data.toList.length = p.deb.size := by simp
  have e2 : p.cre.data.toList.length = p.cre.size := by simp
  have e3 : (byt (amt p.amt)).length = (amt p.amt).length := by simp [byt]
  simp only [pline, List.length_append, e1, e2, e3, List.length_cons, List.length_nil]
  omega
theorem printL_len : ∀ (ps : List Pst), (∀ p ∈ ps, I64 p.amt ∧ p.deb.size ≤ 1000 ∧ p.cre.size ≤ 1000) → (printL ps).length ≤ ps.length * 2100
  | [], _ => by simp [printL]
  | p :: ps, h => by
    have h1 := h p (List.mem_cons_self ..)
    have h2 := printL_len ps (fun q hq => h q (List.mem_cons_of_mem _ hq))
    have h3 := pline_len p h1.1 h1.2.1 h1.2.2
    have e : printL (p :: ps) = pline p ++ printL ps := rfl
    rw [e, List.length_append, List.length_cons, Nat.add_mul]
    omega
theorem printL_snoc {ps : List Pst} {k : Nat} (hk : k < ps.length) : printL (ps.take (k + 1)) = printL (ps.take k) ++ pline ps[k] := by
  unfold printL
  rw [List.take_succ_eq_append_getElem hk, List.flatMap_append]
  simp
end Go.Proofs.YtppamojkhkdfpaaDoor
