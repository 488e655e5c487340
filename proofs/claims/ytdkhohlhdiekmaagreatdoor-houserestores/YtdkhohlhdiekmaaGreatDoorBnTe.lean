/- The walks of errors.As at an api.Errno, of api.Tell, plain.Place, tallymanref.Bare, tallymanlaw.is and tallymanlaw.bare, at no error and at a bare Errno. The walk of api.Tell, at no error and at a bare Errno. The walk of tallymankeep.HouseRestores. -/
import Derived.Test.YtdkhohlhdiekmaaGreatDoorRows
import Derived.WalkKit
import Derived.ProofKit
import Derived.OpenShut
import Derived.WalkSpells
import Derived.WalkSmall
import Derived.LaidEql
import Derived.Stop.Asserts
import Derived.RowKitTokens
import Derived.Test.YtdkhohlhdiekmaaGreatDoorHsRefW
namespace Go.Proofs.YtdkhohlhdiekmaaGreatDoor
open Go.RowKit Go.Extern.Stop Go.Stop Go.Extern
/-- At one argument, and at two, the matches of the model's entries take their first arm. -/
theorem m2 (h1 : Value → Sem Value) (h2 : Array Value → Sem Value) (v : Value) : ReflectliteValue.method.match_2 (fun _ => Sem Value) #[v] h1 h2 = h1 v := rfl
theorem m3 (h1 : Value → Value → Sem Value) (h2 : Array Value → Sem Value) (v x : Value) : ReflectliteValue.set.match_3 (fun _ => Sem Value) #[v, x] h1 h2 = h1 v x := rfl
theorem Tryz.valueOfP (t : Addr) (w : World) : (ReflectliteValue.unpack (.iface 102 (.pointer (some t)))).run Tryz.prog w
    = .ok (.agg #[.pointer (some ⟨11, 102, none⟩), .pointer (some ⟨w.heap.size, 0, none⟩), .int .u64 150]) (w.alloc (.cells #[.pointer (some t)] 102)) := by kernel_rfl
theorem Tryz.typeP (a : Addr) (w : World) : (ReflectliteValue.methodAny (ReflectliteValue.valueError "reflectlite.Value.Type" 0) (fun t _ _ _ => ReflectliteType.toType t) #[.agg #[.pointer (some ⟨11, 102, none⟩), .pointer (some a), .int .u64 150]]).run Tryz.prog w
    = .ok (.iface 208 (.agg #[.pointer (some ⟨11, 102, none⟩)])) w := by kernel_rfl
theorem Tryz.methodKind (h : Value) (w : World) : (Go.method 459 208 (.agg #[h]) "Kind").run Tryz.prog w = .ok (280, h) w := by kernel_rfl
theorem Tryz.kindP (w : World) : ((ReflectliteType.abiMethod fun t => (fun a : Nat => Value.int IntKind.u8 (a : Int)) <$> Rtype.kind t) #[.pointer (some ⟨11, 102, none⟩)]).run Tryz.prog w = .ok (.int .u8 22) w := by kernel_rfl
theorem Tryz.kindE (w : World) : ((ReflectliteType.abiMethod fun t => (fun a : Nat => Value.int IntKind.u8 (a : Int)) <$> Rtype.kind t) #[.pointer (some ⟨11, 43, none⟩)]).run Tryz.prog w = .ok (.int .u8 2) w := by kernel_rfl
theorem Tryz.partsP (a : Addr) (w : World) : (ReflectliteValue.parts (.agg #[.pointer (some ⟨11, 102, none⟩), .pointer (some a), .int .u64 150])).run Tryz.prog w = .ok (some (102, a, 150)) w := by kernel_rfl
theorem Tryz.isNilP (a p : Addr) (W : World) (ha : W.cell? a = some (.pointer (some p))) :
    (ReflectliteValue.method (ReflectliteValue.valueError "reflectlite.Value.IsNil" 0) ReflectliteValue.isNil #[.agg #[.pointer (some ⟨11, 102, none⟩), .pointer (some a), .int .u64 150]]).run Tryz.prog W = .ok (.bool false) W := by
  delta ReflectliteValue.method
  rw [m2]
  simp only [Sem.run_bind, Tryz.partsP, Result.andThen]
  simp [ReflectliteValue.isNil, loadVar, isAgg, underlying, Tryz.underlying102, ha, Result.andThen]
theorem Tryz.methodElem (h : Value) (w : World) : (Go.method 459 208 (.agg #[h]) "Elem").run Tryz.prog w = .ok (292, .agg #[h]) w := by kernel_rfl
theorem Tryz.methodImplements (h : Value) (w : World) : (Go.method 459 208 (.agg #[h]) "Implements").run Tryz.prog w = .ok (293, .agg #[h]) w := by kernel_rfl
theorem Tryz.methodAssignableTo (h : Value) (w : World) : (Go.method 459 208 (.agg #[h]) "AssignableTo").run Tryz.prog w = .ok (290, .agg #[h]) w := by kernel_rfl
theorem Tryz.elemP (w : World) : (ReflectliteType.method ReflectliteType.elem #[.agg #[.pointer (some ⟨11, 102, none⟩)]]).run Tryz.prog w = .ok (.iface 208 (.agg #[.pointer (some ⟨11, 43, none⟩)])) w := by kernel_rfl
theorem Tryz.implementsE (w : World) : (ReflectliteType.relation "Implements" ReflectliteType.implements_ #[.agg #[.pointer (some ⟨11, 43, none⟩)], .iface 208 (.agg #[.pointer (some ⟨11, 47, none⟩)])]).run Tryz.prog w = .ok (.bool true) w := by kernel_rfl
theorem Tryz.typeOfE (v : Value) (w : World) : (ReflectliteType.typeOf #[.iface 43 v]).run Tryz.prog w = .ok (.iface 208 (.agg #[.pointer (some ⟨11, 43, none⟩)])) w := by kernel_rfl
theorem Tryz.assignableE (w : World) : (ReflectliteType.relation "AssignableTo" ReflectliteType.assignableTo #[.agg #[.pointer (some ⟨11, 43, none⟩)], .iface 208 (.agg #[.pointer (some ⟨11, 43, none⟩)])]).run Tryz.prog w = .ok (.bool true) w := by kernel_rfl
theorem Tryz.valueOfE (k : Int) (w : World) : (ReflectliteValue.unpack (.iface 43 (.int .i64 k))).run Tryz.prog w
    = .ok (.agg #[.pointer (some ⟨11, 43, none⟩), .pointer (some ⟨w.heap.size, 0, none⟩), .int .u64 130]) (w.alloc (.cells #[.int .i64 k] 43)) := by kernel_rfl
theorem Tryz.elemOfP (w : World) : (Rtype.elem? 102).run Tryz.prog w = .ok (some 43) w := by kernel_rfl
theorem Tryz.mkE (p : Addr) (w : World) : (ReflectliteValue.mk 43 p ReflectliteValue.flagAddr).run Tryz.prog w = .ok (.agg #[.pointer (some ⟨11, 43, none⟩), .pointer (some p), .int .u64 386]) w := by kernel_rfl
theorem Tryz.elemVP (a p : Addr) (W : World) (ha : W.cell? a = some (.pointer (some p))) :
    (ReflectliteValue.method (ReflectliteValue.valueError "reflectlite.Value.Elem" 0) ReflectliteValue.elem #[.agg #[.pointer (some ⟨11, 102, none⟩), .pointer (some a), .int .u64 150]]).run Tryz.prog W
      = .ok (.agg #[.pointer (some ⟨11, 43, none⟩), .pointer (some p), .int .u64 386]) W := by
  delta ReflectliteValue.method
  rw [m2]
  simp only [Sem.run_bind, Tryz.partsP, Result.andThen]
  simp [ReflectliteValue.elem, loadVar, isAgg, underlying, Tryz.underlying102, ha, Result.andThen, Tryz.elemOfP, Tryz.mkE]
theorem Tryz.partsEa (a : Addr) (w : World) : (ReflectliteValue.parts (.agg #[.pointer (some ⟨11, 43, none⟩), .pointer (some a), .int .u64 386])).run Tryz.prog w = .ok (some (43, a, 386)) w := by kernel_rfl
theorem Tryz.partsE (a : Addr) (w : World) : (ReflectliteValue.parts (.agg #[.pointer (some ⟨11, 43, none⟩), .pointer (some a), .int .u64 130])).run Tryz.prog w = .ok (some (43, a, 130)) w := by kernel_rfl
theorem Tryz.directE (w : World) : (Rtype.directlyAssignable 43 43).run Tryz.prog w = .ok true w := by kernel_rfl
theorem Tryz.setE (ta b : Addr) (k : Int) (old : Value) (W : World) (hb : W.cell? b = some (.int .i64 k)) (ht : W.cell? ta = some old) (hf : W.frozen? ta = false) :
    (ReflectliteValue.set #[.agg #[.pointer (some ⟨11, 43, none⟩), .pointer (some ta), .int .u64 386], .agg #[.pointer (some ⟨11, 43, none⟩), .pointer (some b), .int .u64 130]]).run Tryz.prog W
      = .ok (.tuple #[]) (W.setCell ta (.int .i64 k)) := by
  delta ReflectliteValue.set
  rw [m3]
  simp only [Sem.run_bind, Tryz.partsEa, Tryz.partsE, Result.andThen]
  simp [ReflectliteValue.flagAddr, loadVar, isAgg, underlying, Tryz.underlying43, hb, Result.andThen, Tryz.directE, storeVar, Value.cells, storeCells, Addr.add]
  rw [run_store Tryz.prog W ta _ _ (by rfl)]
  simp [ht, hf]
theorem as_nil (t : Value) (w : World) :
    Calls Tryz.prog 44 #[.nilIface, t] w fun e w' => e = .returned (.bool false) ∧ w' = w := by
  go_enter Tryz.func44, Tryz.ntmps44
  go_wp2
  go_ret
  exact ⟨rfl, rfl⟩
/-- The package-level variable errors.errorType holds the handle of the type error. -/
def ErrType (w : World) : Prop := w.cell? ⟨0, 0, none⟩ = some (.iface 208 (.agg #[.pointer (some ⟨11, 47, none⟩)]))
theorem ErrType.below {w w' : World} (h : ErrType w) (hb : Below w.heap.size w w') : ErrType w' := by
  unfold ErrType at h ⊢
  rw [hb.cell (p := ⟨0, 0, none⟩) (World.block_lt_of_cell? _ _ h)]; exact h
set_option maxHeartbeats 4000000 in
theorem as_errno (k : Int) (t : Addr) (old : Value) (w : World) (hg : ErrType w) (ht0 : w.cell? t = some old) (hf0 : w.frozen? t = false) :
    Calls Tryz.prog 44 #[.iface 43 (.int .i64 k), .iface 102 (.pointer (some t))] w fun ev w' => ev = .returned (.bool true) ∧ w' = ((((w.alloc (.cells #[.pointer (some t)] 102)).alloc (.cells #[.pointer (some ⟨11, 102, none⟩), .pointer (some ⟨w.heap.size, 0, none⟩), .int .u64 150] 145)).alloc (.cells #[.pointer (some ⟨11, 102, none⟩), .pointer (some ⟨w.heap.size, 0, none⟩), .int .u64 150] 145)).alloc (.cells #[.int .i64 k] 43)).setCell t (.int .i64 k) := by
  unfold ErrType at hg
  have h6 := @run_callFunc_extern Tryz.prog 83 _ (fun args => ReflectliteValue.unpack (args.getD 0 (.tuple #[]))) Tryz.func83 (by kernel_rfl) (by kernel_rfl) (by kernel_rfl) (by kernel_rfl)
  have h7 := @run_callFunc_extern Tryz.prog 84 _ (ReflectliteValue.methodAny (ReflectliteValue.valueError "reflectlite.Value.Type" 0) (fun t _ _ _ => ReflectliteType.toType t)) Tryz.func84 (by kernel_rfl) (by kernel_rfl) (by kernel_rfl) (by kernel_rfl)
  have h8 := @run_callFunc_extern Tryz.prog 85 _ (ReflectliteValue.method (ReflectliteValue.valueError "reflectlite.Value.IsNil" 0) ReflectliteValue.isNil) Tryz.func85 (by kernel_rfl) (by kernel_rfl) (by kernel_rfl) (by kernel_rfl)
  have h27 := @run_callFunc_extern Tryz.prog 280 _ (ReflectliteType.abiMethod fun t => do pure (.int .u8 (← Rtype.kind t))) Tryz.func280 (by kernel_rfl) (by kernel_rfl) (by kernel_rfl) (by kernel_rfl)
  have h37 := @run_callFunc_extern Tryz.prog 292 _ (ReflectliteType.method ReflectliteType.elem) Tryz.func292 (by kernel_rfl) (by kernel_rfl) (by kernel_rfl) (by kernel_rfl)
  have h38 := @run_callFunc_extern Tryz.prog 293 _ (ReflectliteType.relation "Implements" ReflectliteType.implements_) Tryz.func293 (by kernel_rfl) (by kernel_rfl) (by kernel_rfl) (by kernel_rfl)
  have h10 := @run_callFunc_extern Tryz.prog 129 _ ReflectliteType.typeOf Tryz.func129 (by kernel_rfl) (by kernel_rfl) (by kernel_rfl) (by kernel_rfl)
  have h35 := @run_callFunc_extern Tryz.prog 290 _ (ReflectliteType.relation "AssignableTo" ReflectliteType.assignableTo) Tryz.func290 (by kernel_rfl) (by kernel_rfl) (by kernel_rfl) (by kernel_rfl)
  have h11 := @run_callFunc_extern Tryz.prog 130 _ (ReflectliteValue.method (ReflectliteValue.valueError "reflectlite.Value.Elem" 0) ReflectliteValue.elem) Tryz.func130 (by kernel_rfl) (by kernel_rfl) (by kernel_rfl) (by kernel_rfl)
  have h12 := @run_callFunc_extern Tryz.prog 131 _ ReflectliteValue.set Tryz.func131 (by kernel_rfl) (by kernel_rfl) (by kernel_rfl) (by kernel_rfl)
  have tO := Tryz.typeOfE
  have mA := Tryz.methodAssignableTo
  have aE := Tryz.assignableE
  have vE := Tryz.valueOfE
  have f6 := Tryz.valueOfP
  have f7 := Tryz.typeP
  have mK := Tryz.methodKind
  have mE := Tryz.methodElem
  have mI := Tryz.methodImplements
  have kP := Tryz.kindP
  have kE := Tryz.kindE
  have eP := Tryz.elemP
  have iE := Tryz.implementsE
  have n8 := Tryz.isNilP ⟨w.heap.size, 0, none⟩ t ((w.alloc (.cells #[.pointer (some t)] 102)).alloc (.cells #[.pointer (some ⟨11, 102, none⟩), .pointer (some ⟨w.heap.size, 0, none⟩), .int .u64 150] 145)) (by simp)
  have hlt : 0 < w.heap.size := World.block_lt_of_cell? _ _ hg
  have hg2 : ((w.alloc (.cells #[.pointer (some t)] 102)).alloc (.cells #[.pointer (some ⟨11, 102, none⟩), .pointer (some ⟨w.heap.size, 0, none⟩), .int .u64 150] 145)).cell? ⟨0, 0, none⟩ = some (.iface 208 (.agg #[.pointer (some ⟨11, 47, none⟩)])) := by
    rw [World.cell?_alloc_lt _ _ ⟨0, 0, none⟩ (by simp <;> omega), World.cell?_alloc_lt _ _ ⟨0, 0, none⟩ hlt]; exact hg
  have htl : t.block < w.heap.size := World.block_lt_of_cell? _ _ ht0
  have el := Tryz.elemVP ⟨w.heap.size, 0, none⟩ t (((w.alloc (.cells #[.pointer (some t)] 102)).alloc (.cells #[.pointer (some ⟨11, 102, none⟩), .pointer (some ⟨w.heap.size, 0, none⟩), .int .u64 150] 145)).alloc (.cells #[.pointer (some ⟨11, 102, none⟩), .pointer (some ⟨w.heap.size, 0, none⟩), .int .u64 150] 145)) (by rw [World.cell?_alloc_lt _ _ ⟨w.heap.size, 0, none⟩ (by simp; omega)]; simp)
  have st := Tryz.setE t ⟨w.heap.size + 1 + 1 + 1, 0, none⟩ k old ((((w.alloc (.cells #[.pointer (some t)] 102)).alloc (.cells #[.pointer (some ⟨11, 102, none⟩), .pointer (some ⟨w.heap.size, 0, none⟩), .int .u64 150] 145)).alloc (.cells #[.pointer (some ⟨11, 102, none⟩), .pointer (some ⟨w.heap.size, 0, none⟩), .int .u64 150] 145)).alloc (.cells #[.int .i64 k] 43))
    (by rw [World.cell?_alloc_at _ _ _ _ (by simp)]; rfl)
    (by rw [World.cell?_alloc_lt _ _ t (by simp; omega), World.cell?_alloc_lt _ _ t (by simp; omega), World.cell?_alloc_lt _ _ t (by simp; omega), World.cell?_alloc_lt _ _ t htl]; exact ht0)
    (by rw [World.frozen?_alloc_old _ _ t (by simp; omega), World.frozen?_alloc_old _ _ t (by simp; omega), World.frozen?_alloc_old _ _ t (by simp; omega), World.frozen?_alloc_old _ _ t (Nat.ne_of_lt htl)]; exact hf0)
  go_enter Tryz.func44, Tryz.ntmps44
  go_wp2
  refine wp_loop_rounds 1 ?_
  rw [rounds_succ]
  go_wp2
  go_ret
  exact ⟨rfl, rfl⟩
end Go.Proofs.YtdkhohlhdiekmaaGreatDoor
namespace Go.Proofs.YtdkhohlhdiekmaaGreatDoor
open Go.RowKit
set_option maxHeartbeats 1000000 in
theorem tell_nil (w : World) : Calls Tryz.prog 20 #[.nilIface] w fun e w' => e = .returned (.int .i64 0) ∧ w' = w := by
  go_enter Tryz.func20, Tryz.ntmps20
  go_wp2
  go_ret
  exact ⟨rfl, rfl⟩
set_option maxHeartbeats 1000000 in
theorem tell_errno (k : Int) (w : World) (hg : ErrType w) : Calls Tryz.prog 20 #[.iface 43 (.int .i64 k)] w fun e w' => e = .returned (.int .i64 k) ∧ Below w.heap.size w w' := by
  have HG : Hid (ErrType (w.alloc (.cells #[.int .i64 0] 43))) := hg.below ((Below.refl _ _).alloc (Nat.le_refl _) _)
  clear hg
  go_enter Tryz.func20, Tryz.ntmps20
  go_wp2_with fail
  refine (as_errno k ⟨w.heap.size, 0, none⟩ (.int .i64 0) _ HG.out (by simp) (by simp)).mono ?_
  rintro e w' ⟨rfl, rfl⟩
  go_wp2
  go_ret
  refine ⟨rfl, ?_⟩
  exact ((((((Below.refl _ _).alloc (Nat.le_refl _) _).alloc (by simp) _).alloc (by simp; omega) _).alloc (by simp; omega) _).alloc (by simp; omega) _)
end Go.Proofs.YtdkhohlhdiekmaaGreatDoor
namespace Go.Proofs.YtdkhohlhdiekmaaGreatDoor
open Go.RowKit
/-- A house to which lines were done. -/
def OneI (w2 : World) (p k : Nat) (wr : World) : Prop := ∃ st s c, HsAt wr w2.heap.size p s c st ∧ HsOk st ∧ Made st ∧ st.ls.length ≤ k ∧ Below w2.heap.size w2 wr
theorem one_new (w : World) : OneI w w.heap.size 0 (w.alloc (.cells #[.slice none 0 0, .int .i64 0, .int .i64 0, .slice none 0 0, .string ⟨#[]⟩, .int .i64 0] 31)) :=
  ⟨hs0, _, _, house_new w _ (Nat.le_refl _), ok_zero, made_zero, by simp [hs0], (Below.refl _ _).alloc (Nat.le_refl _) _⟩
/-- api.Tell of an error. -/
theorem tell_any (c : Int) (w : World) (hg : ErrType w) : Calls Tryz.prog 20 #[errV c] w fun e w' => e = .returned (.int .i64 c) ∧ Below w.heap.size w w' := by
  by_cases hc : c = 0
  · subst hc
    rw [show errV 0 = Value.nilIface from rfl]
    exact (tell_nil w).mono fun e w' ⟨he, hw⟩ => ⟨he, by rw [hw]; exact Below.refl _ _⟩
  · rw [errV_ne hc]
    exact tell_errno c w hg
set_option maxRecDepth 20000 in
set_option maxHeartbeats 8000000 in
theorem restores_walk (ao : Option Addr) (cap : Nat) (l : List (List UInt8)) (bo : Option Addr) (cbp : Nat) (m : List (List UInt8)) (w : World) (hg : ErrType w ∧ GlobH w) (hev : ∀ t ∈ l, t.length ≤ maxLen) (hat : StrsC w ao l) (hcp : l.length ≤ cap) (hmx : cap ≤ maxLen)
    (hev2 : ∀ t ∈ m, t.length ≤ maxLen) (hat2 : StrsC w bo m) (hcp2 : m.length ≤ cbp) (hmx2 : cbp ≤ maxLen) :
    Calls Tryz.prog 4 #[.slice ao l.length cap, .slice bo m.length cbp] w fun e w' => e = .returned (.bool true) ∧ Below w.heap.size w w' := by
  have hli := lines_any l ao cap w hat hev (by omega)
  have HLM := fun (W : World) (hb : Below w.heap.size w W) => hidE (lines_any m bo cbp W (hat2.below hb) hev2 (by omega))
  have HC := hidE hat
  have HD := hidE hat2
  have HG := hidE hg
  clear hat hev hg hat2 hev2
  go_enter Tryz.func4, Tryz.ntmps4
  go_wp2_with fail
  refine hli.mono ?_
  rintro x w1 ⟨⟨bb, rfl, hbb⟩, hb1⟩
  have hlm := (HLM w1 hb1).out
  clear hli HLM
  cases bb with
  | false =>
    clear hbb hlm
    go_wp2
    go_ret
    exact ⟨rfl, hb1⟩
  | true =>
  obtain ⟨h30, h250⟩ := hbb rfl
  have H250 := hidE h250
  clear hbb h250
  go_wp2_with fail
  refine hlm.mono ?_
  rintro x w1' ⟨⟨bb, rfl, hbb⟩, hb1'⟩
  have hbx : Below w.heap.size w w1' := hb1.trans (hb1'.mono hb1.size)
  clear hlm hb1 hb1'
  cases bb with
  | false =>
    clear hbb
    go_wp2
    go_ret
    exact ⟨rfl, hbx⟩
  | true =>
  obtain ⟨m30, m250⟩ := hbb rfl
  have M250 := hidE m250
  have hke := kept_any w1' (HG.out.2.below hbx)
  clear hbb m250
  go_wp2_with fail
  refine hke.mono ?_
  rintro x w2 ⟨rfl, hb2'⟩
  have hb2 : Below w.heap.size w w2 := hbx.trans (hb2'.mono hbx.size)
  clear hke hbx hb2'
  have HN := hidE (one_new w2)
  have hG2 := hidE (HG.out.2.below hb2)
  have hE2 := hidE (HG.out.1.below hb2)
  have hs2 := hb2.size
  obtain ⟨W3, hW3⟩ : ∃ W, W = w2.alloc (.cells #[.slice none 0 0, .int .i64 0, .int .i64 0, .slice none 0 0, .string ⟨#[]⟩, .int .i64 0] 31) := ⟨_, rfl⟩
  rw [← hW3] at HN
  have HW3 : Hid (W3 = _) := hW3
  have HC2 : Hid (StrsC w2 ao l) := HC.out.below hb2
  have HD2 : Hid (StrsC w2 bo m) := HD.out.below hb2
  have HB2 := hidE hb2
  clear hW3 HC HD HG hb2
  go_wp2_with fail
  rw [← HW3.out]
  obtain ⟨p1, hp1⟩ : ∃ p, p = w2.heap.size := ⟨_, rfl⟩
  rw [← hp1]
  have HN2 : Hid (OneI w2 p1 0 W3) := by rw [hp1]; exact HN.out
  clear hp1 HN HW3
  go_loopw [6] (fun i wr => ∃ k : Nat, k ≤ l.length ∧ i = .int .i64 k ∧ Hid (OneI w2 p1 k wr)) (fun i _ => l.length - (intOf i).toNat)
  case atStart => exact ⟨0, Nat.zero_le _, rfl, HN2⟩
  case round =>
    obtain ⟨k, hk, rfl, HS⟩ := hrel
    obtain ⟨st, s1, c1, hA1, hok, hma, hcnt, hbl⟩ := HS.out
    by_cases hlt : k < l.length
    · obtain ⟨b, o, e1, lt1, c1'⟩ := HC2.out (by omega)
      subst e1
      have d1 : wr.cell? ⟨b, o + k, none⟩ = some (encS l[k]) := (hbl.cell (p := ⟨b, o + k, none⟩) lt1).trans (c1' k hlt)
      have ht2 := H250.out _ (List.getElem_mem hlt)
      have hgr : Ground w2.heap.size wr := ⟨w2, hG2.out, Nat.le_refl _, hbl⟩
      have hdo := do_any hA1 hok (by omega) hgr l[k] (by omega)
      obtain ⟨t, ht⟩ : ∃ t, t = l[k] := ⟨_, rfl⟩
      rw [← ht] at d1 hdo ht2
      unfold encS at d1
      have hcn := do_count st t
      have HK3 : Hid (∀ w' s' c', HsAt w' w2.heap.size p1 s' c' (doH st t).h → HTurn wr w' p1 s1 c1 s' c' → OneI w2 p1 (k + 1) w') := fun w' s' c' a' u' =>
        ⟨_, _, _, a', do_keeps t hok (by omega), hma.step t, by omega, u'.below hA1 hbl hbl.size⟩
      clear c1' ht HS hok hbl hgr hma hA1
      go_wp2_with fail
      refine hdo.mono ?_
      rintro x w4 ⟨sv', cv', rfl, hA4, hT4⟩
      have HS5 := hidE (HK3.out w4 sv' cv' hA4 hT4)
      clear hdo hA4 hT4 d1 HK3
      go_wp2
      go_roundw
      case rel => exact ⟨k + 1, by omega, by go_num, HS5⟩
      case measure => simp [intOf]; omega
    · have hj := journal_any hA1
      have hrd : Rd 0 (framesL 0 st.ls) st.ls := read_frames st.ls 0 (by omega) hok.ls
      have hsz : (ba (framesL 0 st.ls)).size ≤ 100000 := by
        rw [ba_size, frames_len]
        have := frames_bdH st.ls hok.ls
        omega
      have hre := restore_any (ba (framesL 0 st.ls)) st.ls wr (hG2.out.below hbl) hsz (by rw [ba_data]; exact hrd)
      have HA1 := hidE hA1
      have HOK := hidE hok
      have HMA := hidE hma
      have HBL := hidE hbl
      clear hrd hsz HS hA1 hok hma hbl
      go_wp2_with fail
      refine hj.mono ?_
      rintro x w3 ⟨rfl, hw3⟩
      subst w3
      clear hj
      go_wp2_with fail
      refine hre.mono ?_
      rintro x w4 ⟨⟨_, p2, s2, c2, rfl, hA4⟩ | ⟨hng, _⟩, hb4⟩
      rotate_left
      · exact absurd HMA.out.good hng
      rw [← HMA.out.run] at hA4
      have hTW : TwoH w4 w2.heap.size p1 p2 s1 c1 s2 c2 st st := TwoH.of_later HA1.out hA4 hb4 HBL.out.size
      have hB4 : Below w2.heap.size w2 w4 := HBL.out.trans (hb4.mono HBL.out.size)
      have hal := alike_any hTW.a2 hTW.a1 HOK.out (by omega) (hG2.out.below hB4).ev.len
      have HS4 : Hid (∀ w', Below w4.heap.size w4 w' → SameI w2 p1 p2 (l.length + 0) w') := fun w' hb => ⟨st, _, _, _, _, hTW.below hb, HOK.out, by omega, hB4.trans (hb.mono hB4.size)⟩
      have hnn : decide ((l.length : Int) < (st.ls.length : Int)) = false := decide_eq_false (by omega)
      have hnn2 : decide (l.length < st.ls.length) = false := decide_eq_false (by omega)
      clear hre hA4 hTW hB4 hb4
      go_wp2_with fail
      refine hal.mono ?_
      rintro x w5 ⟨rfl, hb5⟩
      have HS5 := hidE (HS4.out w5 hb5)
      clear hal hb5 HS4 HA1 HOK HMA HBL hnn hnn2
      go_wp2_with fail
      obtain ⟨wo, hwo⟩ : ∃ X, X = wr := ⟨_, rfl⟩
      clear hwo
      go_loopw [10] (fun i wr => ∃ j : Nat, j ≤ m.length ∧ i = .int .i64 j ∧ Hid (SameI w2 p1 p2 (l.length + j) wr)) (fun i _ => m.length - (intOf i).toNat)
      case atStart => exact ⟨0, Nat.zero_le _, rfl, HS5⟩
      case round =>
        obtain ⟨j, hj, rfl, HS⟩ := hrel
        obtain ⟨su, r1, q1, r2, q2, hTW, hok, hcn0, hbl⟩ := HS.out
        by_cases hjl : j < m.length
        · obtain ⟨b, o, e1, lt1, c1'⟩ := HD2.out (by omega)
          subst e1
          have HCL : Hid (∀ W, Below w2.heap.size w2 W → W.cell? ⟨b, o + j, none⟩ = some (encS m[j])) := fun W hb => (hb.cell (p := ⟨b, o + j, none⟩) lt1).trans (c1' j hjl)
          have d1 := HCL.out wr hbl
          have ht2 := M250.out _ (List.getElem_mem hjl)
          have hgr : Ground w2.heap.size wr := ⟨w2, hG2.out, Nat.le_refl _, hbl⟩
          have hdo := do_any hTW.a1 hok (by omega) hgr m[j] (by omega)
          obtain ⟨t, ht⟩ : ∃ t, t = m[j] := ⟨_, rfl⟩
          rw [← ht] at d1 hdo ht2 HCL
          unfold encS at d1 HCL
          have HTW := hidE hTW
          have HOK := hidE hok
          have HBL := hidE hbl
          have hcn := do_count su t
          have HK2 : Hid (HsOk (doH su t).h) := do_keeps t hok (by omega)
          clear c1' ht HS hTW hok hbl hgr
          go_wp2_with fail
          refine hdo.mono ?_
          rintro x w6 ⟨sv', cv', rfl, hA6, hT6⟩
          have hB6 : Below w2.heap.size w2 w6 := hT6.below HTW.out.a1 HBL.out HBL.out.size
          have hT6' := HTW.out.first hA6 hT6
          have hdo2 := do_any hT6'.a2 HOK.out (by omega) ⟨w2, hG2.out, Nat.le_refl _, hB6⟩ t (by omega)
          have d2 := HCL.out w6 hB6
          have HK3 : Hid (∀ w' s2' c2', HsAt w' w2.heap.size p2 s2' c2' (doH su t).h → HTurn w6 w' p2 r2 q2 s2' c2' → SameI w2 p1 p2 (l.length + (j + 1)) w' ∧ Below w2.heap.size w2 w') := fun w' s2' c2' a' u' =>
            ⟨⟨_, _, _, _, _, hT6'.second a' u', HK2.out, by omega, u'.below hT6'.a2 hB6 hB6.size⟩, u'.below hT6'.a2 hB6 hB6.size⟩
          clear hdo hA6 hT6 HBL d1 hT6' hB6 HTW HOK HK2 HCL
          go_wp2_with fail
          refine hdo2.mono ?_
          rintro x w7 ⟨s2', c2', rfl, hA7, hT7⟩
          obtain ⟨hS7, hB7⟩ := HK3.out w7 s2' c2' hA7 hT7
          have HS7 := hidE hS7
          have HB7 := hidE hB7
          clear hdo2 hA7 hT7 hS7 hB7 HK3 d2
          generalize (doH su t).c = cc at *
          generalize ba (doH su t).told = tt at *
          go_wp2_with fail
          refine (tell_any cc w7 (hE2.out.below HB7.out)).mono ?_
          rintro x w8 ⟨rfl, hb8⟩
          have HB8 : Hid (Below w2.heap.size w2 w8) := HB7.out.trans (hb8.mono HB7.out.size)
          go_wp2_with fail
          refine (tell_any cc w8 (hE2.out.below HB8.out)).mono ?_
          rintro x w9 ⟨rfl, hb9⟩
          have HS9 : Hid (SameI w2 p1 p2 (l.length + (j + 1)) w9) := by
            obtain ⟨sz, a1, a2, a3, a4, t1, t2, t3, t4⟩ := HS7.out
            have hb := hb8.trans (hb9.mono hb8.size)
            exact ⟨sz, a1, a2, a3, a4, t1.below hb, t2, t3, t4.trans (hb.mono t4.size)⟩
          clear hb8 hb9 HB8 HS7 HB7
          go_wp2
          go_roundw
          case rel => exact ⟨j + 1, by omega, by go_num, HS9⟩
          case measure => simp [intOf]; omega
        · have hal := alike_any hTW.a2 hTW.a1 hok (by omega) (hG2.out.below hbl).ev.len
          have HBL := hidE hbl
          clear HS hTW hok hbl
          go_wp2_with fail
          refine hal.mono ?_
          rintro x w8 ⟨rfl, hb8⟩
          have HFB : Hid (Below w.heap.size w w8) := HB2.out.trans ((HBL.out.trans (hb8.mono HBL.out.size)).mono HB2.out.size)
          clear hal hb8
          go_wp2
          go_ret
          exact ⟨rfl, HFB.out⟩
end Go.Proofs.YtdkhohlhdiekmaaGreatDoor
