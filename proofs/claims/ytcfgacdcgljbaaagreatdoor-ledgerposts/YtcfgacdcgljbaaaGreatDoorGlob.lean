/- What the package-level variables of Go's library hold; the walk of tallymanref.in; strconv.Atoi however it ends; two functions that give the same number and error. -/
import Derived.Test.YtcfgacdcgljbaaaGreatDoorBnE
import Derived.Test.YtcfgacdcgljbaaaGreatDoorShN
import Derived.Laws.RangeString
import Derived.Lib.AppendIntMem
import Derived.Lib.SmallJoins
namespace Go.Proofs.YtcfgacdcgljbaaaGreatDoor
open Go.RowKit
/-- What the walks ask of the package-level variables. -/
structure Glob (w : World) : Prop where
  et : ErrType w
  tab : Lib.TabIs Tryz.prog w "internal/strconv.uint64pow10" .u64 Lib.pow10Tab
  syn : ∃ tp p, w.var? Tryz.prog "strconv.ErrSyntax" = some #[.iface tp p]
  rng : ∃ tp p, w.var? Tryz.prog "strconv.ErrRange" = some #[.iface tp p]
  ml : ∃ m, w.cell? ⟨3, 0, none⟩ = some (.int .i64 m)
theorem Tryz.gTab : Tryz.prog.globalNamed "internal/strconv.uint64pow10" = some 9 := by kernel_rfl
theorem Tryz.gSyn : Tryz.prog.globalNamed "strconv.ErrSyntax" = some 5 := by kernel_rfl
theorem Tryz.gRng : Tryz.prog.globalNamed "strconv.ErrRange" = some 6 := by kernel_rfl
theorem var_lt {P : Program} {w : World} {n : String} {g : Nat} {cs : Array Value} (hg : P.globalNamed n = some g) (hv : w.var? P n = some cs) : g < w.heap.size := by
  unfold World.var? at hv
  simp only [hg, Option.bind_some] at hv
  rcases Nat.lt_or_ge g w.heap.size with h | h
  · exact h
  · simp [Array.getElem?_eq_none h] at hv
theorem Glob.below {w w' : World} (h : Glob w) (hb : Below w.heap.size w w') : Glob w' := by
  obtain ⟨et, tab, ⟨tp, p, syn⟩, ⟨tq, q, rng⟩, ⟨m, ml⟩⟩ := h
  refine ⟨et.below hb, var?_below hb Tryz.gTab (var_lt Tryz.gTab tab) tab, ⟨tp, p, var?_below hb Tryz.gSyn (var_lt Tryz.gSyn syn) syn⟩, ⟨tq, q, var?_below hb Tryz.gRng (var_lt Tryz.gRng rng) rng⟩, ⟨m, ?_⟩⟩
  rw [hb.cell (p := ⟨3, 0, none⟩) (World.block_lt_of_cell? _ _ ml)]; exact ml
/-- However strconv.Atoi ends: a number and no error, or some error. -/
theorem atoi_any (s : ByteArray) (w : World) (hg : Glob w) (hs : s.size ≤ 281474976710656) :
    Calls Tryz.prog 126 #[.string s] w fun e w' =>
      ((∃ v, Lib.atoiAll s.data.toList = .ok v ∧ e = .returned (.tuple #[.int .i64 v, .nilIface])) ∨ (∃ (x : Int) (tq : TypeId) (q : Value), (∀ v, Lib.atoiAll s.data.toList ≠ .ok v) ∧ e = .returned (.tuple #[.int .i64 x, .iface tq q]))) ∧ Below w.heap.size w w' := by
  obtain ⟨tp, p, hsyn⟩ := hg.syn
  obtain ⟨tr, r, hrng⟩ := hg.rng
  rcases h : Lib.atoiAll s.data.toList with v | _ | _
  · refine (Tryz.strconv_Atoi_ok s (by omega) v h w).mono fun e w' ⟨he, hw⟩ => ?_
    refine ⟨.inl ⟨v, rfl, he⟩, ?_⟩
    rcases hw with rfl | ⟨t, rfl⟩
    · exact Below.refl _ _
    · exact Go.Joins.below_bytesWorld _ _ _ _ (Nat.le_refl _)
  · refine (Any.strconv_Atoi_syntax_var Tryz.laysC172 s hs h tp p w hsyn).mono fun e w' ⟨N, he, _, _, hb⟩ => ?_
    exact ⟨.inr ⟨0, _, _, fun v hv => (by cases hv), he⟩, hb⟩
  · refine (Tryz.strconv_Atoi_range_var s hs h tr r w hrng).mono fun e w' ⟨N, he, _, _, hb⟩ => ?_
    exact ⟨.inr ⟨_, _, _, fun v hv => (by cases hv), he⟩, hb⟩
theorem hid {p : Prop} (h : p) : Hid p := h
/-- Two functions give the same number, and the second's error is the first's. -/
def PairOK (fr fm : Nat) (args : Array Value) : Prop := ∃ (m k : Int) (ev : Value),
  (∀ W, Glob W → Calls Tryz.prog fr args W fun e W' => e = .returned (.tuple #[.int .i64 m, .int .i64 k]) ∧ Below W.heap.size W W') ∧
  (∀ W, Glob W → Calls Tryz.prog fm args W fun e W' => e = .returned (.tuple #[.int .i64 m, ev]) ∧ Below W.heap.size W W') ∧
  (∀ W, Glob W → Calls Tryz.prog 10 #[ev, .int .i64 k] W fun e W' => e = .returned (.bool true) ∧ Below W.heap.size W W')
theorem bare_nil' (W : World) (_ : Glob W) : Calls Tryz.prog 10 #[.nilIface, .int .i64 0] W fun e W' => e = .returned (.bool true) ∧ Below W.heap.size W W' := bare_nil W
theorem bare_errno' (k : Int) (W : World) (h : Glob W) : Calls Tryz.prog 10 #[.iface 47 (.int .i64 k), .int .i64 k] W fun e W' => e = .returned (.bool true) ∧ Below W.heap.size W W' := bare_errno k W h.et
end Go.Proofs.YtcfgacdcgljbaaaGreatDoor
