/- strconv.Itoa, strconv.Atoi and strings.Split in this program: what the library's variables hold, and how these functions end. -/
import Derived.Test.YtapkandekfndoaaGreatDoorEventMath
import Derived.Test.YtapkandekfndoaaGreatDoorDayParse
import Derived.Test.YtapkandekfndoaaGreatDoorShelf
import Derived.Laws.RangeString
import Derived.Lib.AppendIntMem
import Derived.Lib.SmallJoins
namespace Go.Proofs.YtapkandekfndoaaGreatDoor
open Go.RowKit
/-- What the walks ask of the library's variables. -/
structure GlobN (w : World) : Prop where
  tab : Lib.TabIs Tryz.prog w "internal/strconv.uint64pow10" .u64 Lib.pow10Tab
  syn : ∃ tp p, w.var? Tryz.prog "strconv.ErrSyntax" = some #[.iface tp p]
  rng : ∃ tp p, w.var? Tryz.prog "strconv.ErrRange" = some #[.iface tp p]
  ml : ∃ m, w.cell? ⟨4, 0, none⟩ = some (.int .i64 m)
theorem Tryz.gTabN : Tryz.prog.globalNamed "internal/strconv.uint64pow10" = some 8 := by kernel_rfl
theorem Tryz.gSynN : Tryz.prog.globalNamed "strconv.ErrSyntax" = some 2 := by kernel_rfl
theorem Tryz.gRngN : Tryz.prog.globalNamed "strconv.ErrRange" = some 3 := by kernel_rfl
theorem varN_lt {P : Program} {w : World} {n : String} {g : Nat} {cs : Array Value} (hg : P.globalNamed n = some g) (hv : w.var? P n = some cs) : g < w.heap.size := by
  unfold World.var? at hv
  simp only [hg, Option.bind_some] at hv
  rcases Nat.lt_or_ge g w.heap.size with h | h
  · exact h
  · simp [Array.getElem?_eq_none h] at hv
theorem GlobN.below {w w' : World} (h : GlobN w) (hb : Below w.heap.size w w') : GlobN w' := by
  obtain ⟨tab, ⟨tp, p, syn⟩, ⟨tq, q, rng⟩, ⟨m, ml⟩⟩ := h
  refine ⟨var?_below hb Tryz.gTabN (varN_lt Tryz.gTabN tab) tab, ⟨tp, p, var?_below hb Tryz.gSynN (varN_lt Tryz.gSynN syn) syn⟩, ⟨tq, q, var?_below hb Tryz.gRngN (varN_lt Tryz.gRngN rng) rng⟩, ⟨m, ?_⟩⟩
  rw [hb.cell (p := ⟨4, 0, none⟩) (World.block_lt_of_cell? _ _ ml)]; exact ml
theorem itoaN (n : Int) (w : World) (hg : GlobN w) (h0 : -9223372036854775808 ≤ n) (h1 : n ≤ 9223372036854775807) :
    Calls Tryz.prog 46 #[.int .i64 n] w fun e w' => e = .returned (.string (eb (Lib.itoa n))) ∧ Below w.heap.size w w' := by
  refine (Tryz.strconv_Itoa n h0 h1 w hg.tab).mono fun e w' ⟨he, n1, os1, hw⟩ => ⟨he, ?_⟩
  exact hw ▸ Lib.below_grow _ _ (Nat.le_refl _) _ _
/-- However strconv.Atoi ends: a number and no error, or some error. -/
theorem atoiN (s : ByteArray) (w : World) (hg : GlobN w) (hs : s.size ≤ 281474976710656) :
    Calls Tryz.prog 47 #[.string s] w fun e w' =>
      ((∃ v, Lib.atoiAll s.data.toList = .ok v ∧ e = .returned (.tuple #[.int .i64 v, .nilIface])) ∨ (∃ (x : Int) (tq : TypeId) (q : Value), (∀ v, Lib.atoiAll s.data.toList ≠ .ok v) ∧ e = .returned (.tuple #[.int .i64 x, .iface tq q]))) ∧ Below w.heap.size w w' := by
  obtain ⟨tp, p, hsyn⟩ := hg.syn
  obtain ⟨tr, r, hrng⟩ := hg.rng
  rcases h : Lib.atoiAll s.data.toList with v | _ | _
  · refine (Tryz.strconv_Atoi_ok s (by omega) v h w).mono fun e w' ⟨he, hw⟩ => ?_
    refine ⟨.inl ⟨v, rfl, he⟩, ?_⟩
    rcases hw with rfl | ⟨t, rfl⟩
    · exact Below.refl _ _
    · exact Go.Joins.below_bytesWorld _ _ _ _ (Nat.le_refl _)
  · refine (Any.strconv_Atoi_syntax_var Tryz.laysC172 s hs h tp p w hsyn).mono fun e w' ⟨N, he, _, _, hb⟩ => ?_
    exact ⟨.inr ⟨0, _, _, fun v hv => (by cases hv), he⟩, hb⟩
  · refine (Tryz.strconv_Atoi_range_var s hs h tr r w hrng).mono fun e w' ⟨N, he, _, _, hb⟩ => ?_
    exact ⟨.inr ⟨_, _, _, fun v hv => (by cases hv), he⟩, hb⟩
theorem hidN {p : Prop} (h : p) : Hid p := h
/-- The parts of a text at its blanks. -/
def parts (s : ByteArray) : List ByteArray := Lib.splitB ⟨#[32]⟩ 0 (Lib.countB s ⟨#[32]⟩) s
theorem parts_len (s : ByteArray) : (parts s).length = Lib.countB s ⟨#[32]⟩ + 1 := Lib.splitB_all ⟨#[32]⟩ (by decide) 0 _ s rfl
theorem parts_ps (s : ByteArray) : (parts s).map (fun b => b.data.toList) = ps s.data.toList := Lib.splitB_data ⟨#[32]⟩ 0 _ s
theorem parts_few (s : ByteArray) : (parts s).length ≤ s.size + 2 := by
  have hle : Lib.countB s ⟨#[32]⟩ ≤ s.data.toList.length + 1 := Lib.count_le _ _
  rw [dba_len] at hle
  rw [parts_len]; omega
theorem parts_size (s x : ByteArray) (h : x ∈ parts s) : x.size ≤ s.size := by
  have hm : x.data.toList ∈ Lib.splitK [32] 0 (Lib.count s.data.toList [32]) s.data.toList := by
    have : ps s.data.toList = Lib.splitK [32] 0 (Lib.count s.data.toList [32]) s.data.toList := rfl
    rw [← this, ← parts_ps s]; exact List.mem_map.2 ⟨x, h, rfl⟩
  have := piece_le [32] _ _ _ hm
  rw [dba_len, dba_len] at this; exact this
/-- strings.Split at a blank: a new array of the parts. -/
theorem splitN (s : ByteArray) (w : World) (hg : GlobN w) (hs : s.size ≤ 1000) :
    Calls Tryz.prog 55 #[.string s, .string ⟨#[32]⟩] w fun e w' => e = .returned (.slice (some ⟨w.heap.size, 0, none⟩) (parts s).length (parts s).length) ∧ w' = w.alloc (.cells ((parts s).map Value.string).toArray 9) := by
  obtain ⟨m, hm⟩ := hg.ml
  have h := Tryz.strings_Split s ⟨#[32]⟩ m w (by omega) hm (by decide)
  rw [parts_len]
  exact h
end Go.Proofs.YtapkandekfndoaaGreatDoor
