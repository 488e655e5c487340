/- What ledger.accounts holds: the row's condition made into cells. -/
import Derived.Test.YtcfgacdcgljbaaaGreatDoorLedRead
import Derived.Lib.LaidTab
namespace Go.Proofs.YtcfgacdcgljbaaaGreatDoor
open Go.RowKit
def ebL (z : List UInt8) : ByteArray := ⟨z.toArray⟩
theorem ebL_data (z : ByteArray) : ebL z.data.toList = z := rfl
/-- An array of texts as a row lists it. -/
def strDataL {H : Type} (zs : List (List UInt8)) : DataW H := .agg (zs.map fun z => .lit (.string z))
theorem cells_of_strsL {H : Type} {enc : TypeId × Value → H} {P : Program} {w : World} {base : Nat} {sp : Nat → Bool} {held : Bool} {fuel : Nat} {t e : TypeId} {n : Nat} {cs : List Value} {zs : List (List UInt8)} {p : List MemPlace}
    (ht : P.underlying t = some (.array n e)) (he : P.underlying e = some .string) (hce : P.cellsOf e = 1) (hct : P.cellsOf t = n)
    (h : DataW.trod enc P w base sp held fuel t cs = some (strDataL zs, p)) : cs = zs.map fun z => Value.string (ebL z) := by
  cases fuel with
  | zero => simp [DataW.trod] at h
  | succ fuel =>
    simp only [DataW.trod, ht, hce, hct, Nat.mul_one] at h
    split at h
    · rename_i hl
      obtain ⟨xs, hm, hx⟩ := Option.map_eq_some_iff.1 h
      have hxs : xs.map (·.1) = zs.map fun z => (DataW.lit (.string z) : DataW H) := by
        have := congrArg Prod.fst hx
        simpa [strDataL] using this
      have hxl : xs.length = n := by simpa using Lib.mapM_length hm
      have hzl : zs.length = n := by
        have := congrArg List.length hxs
        simp at this
        omega
      apply List.ext_getElem?
      intro i
      by_cases hi : i < n
      · obtain ⟨b, hb, hf⟩ := Lib.mapM_at hm i i (by simp [hi])
        obtain ⟨z, hc, rfl, _⟩ := DataW.trod_string he hf
        have h1 : cs[i]? = some (.string z) := by
          have := congrArg (·[0]?) hc
          simpa [List.getElem?_take, List.getElem?_drop] using this
        have h2 : (xs.map (·.1))[i]? = some (DataW.lit (.string z.data.toList) : DataW H) := by simp [hb]
        rw [hxs] at h2
        simp only [List.getElem?_map, Option.map_eq_some_iff, DataW.lit.injEq, Lit.string.injEq] at h2
        obtain ⟨z', hz', rfl⟩ := h2
        simp [h1, hz', ebL_data]
      · rw [List.getElem?_eq_none (by omega), List.getElem?_eq_none (by simp; omega)]
    · cases h
theorem strs_of_headL {P : Program} {W : World} {name : String} {zs : List (List UInt8)} {rest : List (String × DataW Unit)} {g : Nat} {t e : TypeId} {n : Nat}
    (hg : P.globalNamed name = some g) (hty : (P.globals[g]?).map (·.type) = some t) (ht : P.underlying t = some (.array n e)) (he : P.underlying e = some .string) (hce : P.cellsOf e = 1) (hct : P.cellsOf t = n)
    (h : laidMet P ((name, strDataL zs) :: rest) W) : W.var? P name = some (zs.map fun z => Value.string (ebL z)).toArray := by
  obtain ⟨ps, ⟨g', t', cs, fuel, p, q, hg', ht', hvar, hd, _, _⟩, _⟩ := h
  obtain rfl := Option.some.inj (hg.symm.trans hg')
  obtain rfl := Option.some.inj (hty.symm.trans ht')
  rw [hvar, ← cells_of_strsL ht he hce hct hd]
theorem gAcc : Tryz.prog.globalNamed "tallyman/ledger.accounts" = some 1 := by kernel_rfl
theorem accType : (Tryz.prog.globals[1]?).map (·.type) = some 287 := by kernel_rfl
theorem acc_of {W : World} {rest : List (String × DataW Unit)} (h : laidMet Tryz.prog (("tallyman/ledger.accounts", strDataL (accL.map fun z => z.data.toList)) :: rest) W) : AccG W := by
  have hv := strs_of_headL gAcc accType Tryz.underlying287 Tryz.underlying9 (by kernel_rfl) (by kernel_rfl) h
  constructor
  all_goals (rw [World.var?_cell gAcc hv]; rfl)
end Go.Proofs.YtcfgacdcgljbaaaGreatDoor
