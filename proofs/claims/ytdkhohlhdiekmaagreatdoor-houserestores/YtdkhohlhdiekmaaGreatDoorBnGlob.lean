/- strconv.Itoa, strconv.Atoi and strings.Split in this program: what the library's variables hold, and how these functions end. What event.words holds: the row's condition made into cells. -/
import Derived.Test.YtdkhohlhdiekmaaGreatDoorBnNum
import Derived.Test.YtdkhohlhdiekmaaGreatDoorBnDayW
import Derived.Test.YtdkhohlhdiekmaaGreatDoorShN
import Derived.Laws.RangeString
import Derived.Lib.AppendIntMem
import Derived.Lib.SmallJoins
import Derived.Lib.LaidTab
namespace Go.Proofs.YtdkhohlhdiekmaaGreatDoor
open Go.RowKit
/-- What the walks ask of the library's variables. -/
structure GlobN (w : World) : Prop where
  tab : Lib.TabIs Tryz.prog w "internal/strconv.uint64pow10" .u64 Lib.pow10Tab
  syn : ∃ tp p, w.var? Tryz.prog "strconv.ErrSyntax" = some #[.iface tp p]
  rng : ∃ tp p, w.var? Tryz.prog "strconv.ErrRange" = some #[.iface tp p]
  ml : ∃ m, w.cell? ⟨1, 0, none⟩ = some (.int .i64 m)
theorem Tryz.gTabN : Tryz.prog.globalNamed "internal/strconv.uint64pow10" = some 4 := by kernel_rfl
theorem Tryz.gSynN : Tryz.prog.globalNamed "strconv.ErrSyntax" = some 2 := by kernel_rfl
theorem Tryz.gRngN : Tryz.prog.globalNamed "strconv.ErrRange" = some 3 := by kernel_rfl
theorem varN_lt {P : Program} {w : World} {n : String} {g : Nat} {cs : Array Value} (hg : P.globalNamed n = some g) (hv : w.var? P n = some cs) : g < w.heap.size := by
  unfold World.var? at hv
  simp only [hg, Option.bind_some] at hv
  rcases Nat.lt_or_ge g w.heap.size with h | h
  · exact h
  · simp [Array.getElem?_eq_none h] at hv
theorem GlobN.below {w w' : World} (h : GlobN w) (hb : Below w.heap.size w w') : GlobN w' := by
  obtain ⟨tab, ⟨tp, p, syn⟩, ⟨tq, q, rng⟩, ⟨m, ml⟩⟩ := h
  refine ⟨var?_below hb Tryz.gTabN (varN_lt Tryz.gTabN tab) tab, ⟨tp, p, var?_below hb Tryz.gSynN (varN_lt Tryz.gSynN syn) syn⟩, ⟨tq, q, var?_below hb Tryz.gRngN (varN_lt Tryz.gRngN rng) rng⟩, ⟨m, ?_⟩⟩
  rw [hb.cell (p := ⟨1, 0, none⟩) (World.block_lt_of_cell? _ _ ml)]; exact ml
theorem itoaN (n : Int) (w : World) (hg : GlobN w) (h0 : -9223372036854775808 ≤ n) (h1 : n ≤ 9223372036854775807) :
    Calls Tryz.prog 51 #[.int .i64 n] w fun e w' => e = .returned (.string (eb (Lib.itoa n))) ∧ Below w.heap.size w w' := by
  refine (Tryz.strconv_Itoa n h0 h1 w hg.tab).mono fun e w' ⟨he, n1, os1, hw⟩ => ⟨he, ?_⟩
  exact hw ▸ Lib.below_grow _ _ (Nat.le_refl _) _ _
/-- However strconv.Atoi ends: a number and no error, or some error. -/
theorem atoiN (s : ByteArray) (w : World) (hg : GlobN w) (hs : s.size ≤ 281474976710656) :
    Calls Tryz.prog 88 #[.string s] w fun e w' =>
      ((∃ v, Lib.atoiAll s.data.toList = .ok v ∧ e = .returned (.tuple #[.int .i64 v, .nilIface])) ∨ (∃ (x : Int) (tq : TypeId) (q : Value), (∀ v, Lib.atoiAll s.data.toList ≠ .ok v) ∧ e = .returned (.tuple #[.int .i64 x, .iface tq q]))) ∧ Below w.heap.size w w' := by
  obtain ⟨tp, p, hsyn⟩ := hg.syn
  obtain ⟨tr, r, hrng⟩ := hg.rng
  rcases h : Lib.atoiAll s.data.toList with v | _ | _
  · refine (Tryz.strconv_Atoi_ok s (by omega) v h w).mono fun e w' ⟨he, hw⟩ => ?_
    refine ⟨.inl ⟨v, rfl, he⟩, ?_⟩
    rcases hw with rfl | ⟨t, rfl⟩
    · exact Below.refl _ _
    · exact Go.Joins.below_bytesWorld _ _ _ _ (Nat.le_refl _)
  · refine (Any.strconv_Atoi_syntax_var Tryz.laysC172 s hs h tp p w hsyn).mono fun e w' ⟨N, he, _, _, hb⟩ => ?_
    exact ⟨.inr ⟨0, _, _, fun v hv => (by cases hv), he⟩, hb⟩
  · refine (Tryz.strconv_Atoi_range_var s hs h tr r w hrng).mono fun e w' ⟨N, he, _, _, hb⟩ => ?_
    exact ⟨.inr ⟨_, _, _, fun v hv => (by cases hv), he⟩, hb⟩
theorem hidN {p : Prop} (h : p) : Hid p := h
/-- The parts of a text at its blanks. -/
def parts (s : ByteArray) : List ByteArray := Lib.splitB ⟨#[32]⟩ 0 (Lib.countB s ⟨#[32]⟩) s
theorem parts_len (s : ByteArray) : (parts s).length = Lib.countB s ⟨#[32]⟩ + 1 := Lib.splitB_all ⟨#[32]⟩ (by decide) 0 _ s rfl
theorem parts_ps (s : ByteArray) : (parts s).map (fun b => b.data.toList) = ps s.data.toList := Lib.splitB_data ⟨#[32]⟩ 0 _ s
theorem parts_few (s : ByteArray) : (parts s).length ≤ s.size + 2 := by
  have hle : Lib.countB s ⟨#[32]⟩ ≤ s.data.toList.length + 1 := Lib.count_le _ _
  rw [dba_len] at hle
  rw [parts_len]; omega
theorem parts_size (s x : ByteArray) (h : x ∈ parts s) : x.size ≤ s.size := by
  have hm : x.data.toList ∈ Lib.splitK [32] 0 (Lib.count s.data.toList [32]) s.data.toList := by
    have : ps s.data.toList = Lib.splitK [32] 0 (Lib.count s.data.toList [32]) s.data.toList := rfl
    rw [← this, ← parts_ps s]; exact List.mem_map.2 ⟨x, h, rfl⟩
  have := piece_le [32] _ _ _ hm
  rw [dba_len, dba_len] at this; exact this
/-- strings.Split at a blank: a new array of the parts. -/
theorem splitN (s : ByteArray) (w : World) (hg : GlobN w) (hs : s.size ≤ 1000) :
    Calls Tryz.prog 90 #[.string s, .string ⟨#[32]⟩] w fun e w' => e = .returned (.slice (some ⟨w.heap.size, 0, none⟩) (parts s).length (parts s).length) ∧ w' = w.alloc (.cells ((parts s).map Value.string).toArray 9) := by
  obtain ⟨m, hm⟩ := hg.ml
  have h := Tryz.strings_Split s ⟨#[32]⟩ m w (by omega) hm (by decide)
  rw [parts_len]
  exact h
end Go.Proofs.YtdkhohlhdiekmaaGreatDoor
namespace Go.Proofs.YtdkhohlhdiekmaaGreatDoor
open Go.RowKit
/-- An array of texts as a row lists it. -/
def strData {H : Type} (zs : List (List UInt8)) : DataW H := .agg (zs.map fun z => .lit (.string z))
theorem cells_of_strs {H : Type} {enc : TypeId × Value → H} {P : Program} {w : World} {base : Nat} {sp : Nat → Bool} {held : Bool} {fuel : Nat} {t e : TypeId} {n : Nat} {cs : List Value} {zs : List (List UInt8)} {p : List MemPlace}
    (ht : P.underlying t = some (.array n e)) (he : P.underlying e = some .string) (hce : P.cellsOf e = 1) (hct : P.cellsOf t = n)
    (h : DataW.trod enc P w base sp held fuel t cs = some (strData zs, p)) : cs = zs.map fun z => Value.string (eb z) := by
  cases fuel with
  | zero => simp [DataW.trod] at h
  | succ fuel =>
    simp only [DataW.trod, ht, hce, hct, Nat.mul_one] at h
    split at h
    · rename_i hl
      obtain ⟨xs, hm, hx⟩ := Option.map_eq_some_iff.1 h
      have hxs : xs.map (·.1) = zs.map fun z => (DataW.lit (.string z) : DataW H) := by
        have := congrArg Prod.fst hx
        simpa [strData] using this
      have hxl : xs.length = n := by simpa using Lib.mapM_length hm
      have hzl : zs.length = n := by
        have := congrArg List.length hxs
        simp at this
        omega
      apply List.ext_getElem?
      intro i
      by_cases hi : i < n
      · obtain ⟨b, hb, hf⟩ := Lib.mapM_at hm i i (by simp [hi])
        obtain ⟨z, hc, rfl, _⟩ := DataW.trod_string he hf
        have h1 : cs[i]? = some (.string z) := by
          have := congrArg (·[0]?) hc
          simpa [List.getElem?_take, List.getElem?_drop] using this
        have h2 : (xs.map (·.1))[i]? = some (DataW.lit (.string z.data.toList) : DataW H) := by simp [hb]
        rw [hxs] at h2
        simp only [List.getElem?_map, Option.map_eq_some_iff, DataW.lit.injEq, Lit.string.injEq] at h2
        obtain ⟨z', hz', rfl⟩ := h2
        simp [h1, hz', eb_data]
      · rw [List.getElem?_eq_none (by omega), List.getElem?_eq_none (by simp; omega)]
    · cases h
theorem strs_of_head {P : Program} {W : World} {name : String} {zs : List (List UInt8)} {rest : List (String × DataW Unit)} {g : Nat} {t e : TypeId} {n : Nat}
    (hg : P.globalNamed name = some g) (hty : (P.globals[g]?).map (·.type) = some t) (ht : P.underlying t = some (.array n e)) (he : P.underlying e = some .string) (hce : P.cellsOf e = 1) (hct : P.cellsOf t = n)
    (h : laidMet P ((name, strData zs) :: rest) W) : W.var? P name = some (zs.map fun z => Value.string (eb z)).toArray := by
  obtain ⟨ps, ⟨g', t', cs, fuel, p, q, hg', ht', hvar, hd, _, _⟩, _⟩ := h
  obtain rfl := Option.some.inj (hg.symm.trans hg')
  obtain rfl := Option.some.inj (hty.symm.trans ht')
  rw [hvar, ← cells_of_strs ht he hce hct hd]
theorem gWords : Tryz.prog.globalNamed "tallyman/event.words" = some 5 := by kernel_rfl
theorem wordsType : (Tryz.prog.globals[5]?).map (·.type) = some 301 := by kernel_rfl
/-- What event.words holds. -/
def WordTab (w : World) : Prop := ∀ k : Nat, k < 5 → w.cell? ⟨5, k, none⟩ = some (.string (eb (wordOf k)))
theorem words_of {W : World} {rest : List (String × DataW Unit)} (h : laidMet Tryz.prog (("tallyman/event.words", strData [[], [105, 110], [99, 104, 97, 114, 103, 101], [111, 117, 116], [99, 111, 117, 110, 116]]) :: rest) W) : WordTab W := by
  have hv := strs_of_head gWords wordsType Tryz.underlying301 Tryz.underlying9 (by kernel_rfl) (by kernel_rfl) h
  intro k hk
  rw [World.var?_cell gWords hv k]
  have : k = 0 ∨ k = 1 ∨ k = 2 ∨ k = 3 ∨ k = 4 := by omega
  rcases this with rfl | rfl | rfl | rfl | rfl <;> rfl
theorem WordTab.below {w w' : World} (h : WordTab w) (hb : Below w.heap.size w w') : WordTab w' := by
  intro k hk
  rw [hb.cell (p := ⟨5, k, none⟩) (World.block_lt_of_cell? _ _ (h k hk))]; exact h k hk
/-- What the walks of package event ask of the package-level variables. -/
structure GlobE (w : World) : Prop where
  num : GlobN w
  len : LenTab w
  wrd : WordTab w
theorem GlobE.below {w w' : World} (h : GlobE w) (hb : Below w.heap.size w w') : GlobE w' := ⟨h.num.below hb, h.len.below hb, h.wrd.below hb⟩
end Go.Proofs.YtdkhohlhdiekmaaGreatDoor
