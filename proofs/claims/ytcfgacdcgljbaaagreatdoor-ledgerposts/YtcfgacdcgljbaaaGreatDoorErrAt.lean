/- errors.As at an *api.At: the walk of one round more. -/
import Derived.Test.YtcfgacdcgljbaaaGreatDoorBnE
namespace Go.Proofs.YtcfgacdcgljbaaaGreatDoor
open Go.RowKit Go.Extern
theorem Tryz.typeOfA (v : Value) (w : World) : (ReflectliteType.typeOf #[.iface 187 v]).run Tryz.prog w = .ok (.iface 272 (.agg #[.pointer (some ⟨12, 187, none⟩)])) w := by kernel_rfl
theorem Tryz.assignableA (w : World) : (ReflectliteType.relation "AssignableTo" ReflectliteType.assignableTo #[.agg #[.pointer (some ⟨12, 187, none⟩)], .iface 272 (.agg #[.pointer (some ⟨12, 47, none⟩)])]).run Tryz.prog w = .ok (.bool false) w := by kernel_rfl
theorem Tryz.noAsA (v : Value) (xT : TypeId) (w : World) : (Instr.typeAssert (.iface 187 v) xT 355 true).run Tryz.prog w = .ok (.tuple #[.nilIface, .bool false]) w := run_typeAssert_lacksB Tryz.underlying355 (by kernel_rfl) (by kernel_rfl) v xT w
theorem Tryz.hasUnwrapA (v : Value) (xT : TypeId) (w : World) : (Instr.typeAssert (.iface 187 v) xT 246 true).run Tryz.prog w = .ok (.tuple #[.iface 187 v, .bool true]) w := run_typeAssert_hasB Tryz.underlying246 (by kernel_rfl) v xT w
theorem Tryz.methodUnwrap (v : Value) (w : World) : (Go.method 497 187 v "Unwrap").run Tryz.prog w = .ok (300, v) w := by kernel_rfl
theorem unwrap_at (b : Nat) (k : Int) (w : World) (hc : w.cell? ⟨b, 0, none⟩ = some (.int .i64 k)) : Calls Tryz.prog 300 #[.pointer (some ⟨b, 0, none⟩)] w fun e w' => e = .returned (.iface 47 (.int .i64 k)) ∧ w' = w := by
  go_enter Tryz.func300, Tryz.ntmps300
  go_wp2
  go_ret
  exact ⟨rfl, rfl⟩
set_option maxRecDepth 100000 in
set_option maxHeartbeats 4000000 in
theorem as_at (b : Nat) (k : Int) (t : Addr) (old : Value) (w : World) (hg : ErrType w) (hc : w.cell? ⟨b, 0, none⟩ = some (.int .i64 k)) (ht0 : w.cell? t = some old) (hf0 : w.frozen? t = false) :
    Calls Tryz.prog 197 #[.iface 187 (.pointer (some ⟨b, 0, none⟩)), .iface 289 (.pointer (some t))] w fun ev w' => ev = .returned (.bool true) ∧ w' = ((((w.alloc (.cells #[.pointer (some t)] 289)).alloc (.cells #[.pointer (some ⟨12, 289, none⟩), .pointer (some ⟨w.heap.size, 0, none⟩), .int .u64 150] 230)).alloc (.cells #[.pointer (some ⟨12, 289, none⟩), .pointer (some ⟨w.heap.size, 0, none⟩), .int .u64 150] 230)).alloc (.cells #[.int .i64 k] 47)).setCell t (.int .i64 k) := by
  unfold ErrType at hg
  have h6 := @run_callFunc_extern Tryz.prog 119 _ (fun args => ReflectliteValue.unpack (args.getD 0 (.tuple #[]))) Tryz.func119 (by kernel_rfl) (by kernel_rfl) (by kernel_rfl) (by kernel_rfl)
  have h7 := @run_callFunc_extern Tryz.prog 243 _ (ReflectliteValue.methodAny (ReflectliteValue.valueError "reflectlite.Value.Type" 0) (fun t _ _ _ => ReflectliteType.toType t)) Tryz.func243 (by kernel_rfl) (by kernel_rfl) (by kernel_rfl) (by kernel_rfl)
  have h8 := @run_callFunc_extern Tryz.prog 244 _ (ReflectliteValue.method (ReflectliteValue.valueError "reflectlite.Value.IsNil" 0) ReflectliteValue.isNil) Tryz.func244 (by kernel_rfl) (by kernel_rfl) (by kernel_rfl) (by kernel_rfl)
  have h27 := @run_callFunc_extern Tryz.prog 294 _ (ReflectliteType.abiMethod fun t => do pure (.int .u8 (← Rtype.kind t))) Tryz.func294 (by kernel_rfl) (by kernel_rfl) (by kernel_rfl) (by kernel_rfl)
  have h37 := @run_callFunc_extern Tryz.prog 304 _ (ReflectliteType.method ReflectliteType.elem) Tryz.func304 (by kernel_rfl) (by kernel_rfl) (by kernel_rfl) (by kernel_rfl)
  have h38 := @run_callFunc_extern Tryz.prog 305 _ (ReflectliteType.relation "Implements" ReflectliteType.implements_) Tryz.func305 (by kernel_rfl) (by kernel_rfl) (by kernel_rfl) (by kernel_rfl)
  have h10 := @run_callFunc_extern Tryz.prog 264 _ ReflectliteType.typeOf Tryz.func264 (by kernel_rfl) (by kernel_rfl) (by kernel_rfl) (by kernel_rfl)
  have h35 := @run_callFunc_extern Tryz.prog 303 _ (ReflectliteType.relation "AssignableTo" ReflectliteType.assignableTo) Tryz.func303 (by kernel_rfl) (by kernel_rfl) (by kernel_rfl) (by kernel_rfl)
  have h11 := @run_callFunc_extern Tryz.prog 265 _ (ReflectliteValue.method (ReflectliteValue.valueError "reflectlite.Value.Elem" 0) ReflectliteValue.elem) Tryz.func265 (by kernel_rfl) (by kernel_rfl) (by kernel_rfl) (by kernel_rfl)
  have h12 := @run_callFunc_extern Tryz.prog 266 _ ReflectliteValue.set Tryz.func266 (by kernel_rfl) (by kernel_rfl) (by kernel_rfl) (by kernel_rfl)
  have tO := Tryz.typeOfE
  have tA := Tryz.typeOfA
  have mA := Tryz.methodAssignableTo
  have aE := Tryz.assignableE
  have aA := Tryz.assignableA
  have vE := Tryz.valueOfE
  have nA := Tryz.noAsA
  have uA := Tryz.hasUnwrapA
  have mU := Tryz.methodUnwrap
  have f6 := Tryz.valueOfP
  have f7 := Tryz.typeP
  have mK := Tryz.methodKind
  have mE := Tryz.methodElem
  have mI := Tryz.methodImplements
  have kP := Tryz.kindP
  have kE := Tryz.kindE
  have eP := Tryz.elemP
  have iE := Tryz.implementsE
  have n8 := Tryz.isNilP ⟨w.heap.size, 0, none⟩ t ((w.alloc (.cells #[.pointer (some t)] 289)).alloc (.cells #[.pointer (some ⟨12, 289, none⟩), .pointer (some ⟨w.heap.size, 0, none⟩), .int .u64 150] 230)) (by simp)
  have hlt : 4 < w.heap.size := World.block_lt_of_cell? _ _ hg
  have hg2 : ((w.alloc (.cells #[.pointer (some t)] 289)).alloc (.cells #[.pointer (some ⟨12, 289, none⟩), .pointer (some ⟨w.heap.size, 0, none⟩), .int .u64 150] 230)).cell? ⟨4, 0, none⟩ = some (.iface 272 (.agg #[.pointer (some ⟨12, 51, none⟩)])) := by
    rw [World.cell?_alloc_lt _ _ ⟨4, 0, none⟩ (by simp <;> omega), World.cell?_alloc_lt _ _ ⟨4, 0, none⟩ hlt]; exact hg
  have htl : t.block < w.heap.size := World.block_lt_of_cell? _ _ ht0
  have el := Tryz.elemVP ⟨w.heap.size, 0, none⟩ t (((w.alloc (.cells #[.pointer (some t)] 289)).alloc (.cells #[.pointer (some ⟨12, 289, none⟩), .pointer (some ⟨w.heap.size, 0, none⟩), .int .u64 150] 230)).alloc (.cells #[.pointer (some ⟨12, 289, none⟩), .pointer (some ⟨w.heap.size, 0, none⟩), .int .u64 150] 230)) (by rw [World.cell?_alloc_lt _ _ ⟨w.heap.size, 0, none⟩ (by simp; omega)]; simp)
  have st := Tryz.setE t ⟨w.heap.size + 1 + 1 + 1, 0, none⟩ k old ((((w.alloc (.cells #[.pointer (some t)] 289)).alloc (.cells #[.pointer (some ⟨12, 289, none⟩), .pointer (some ⟨w.heap.size, 0, none⟩), .int .u64 150] 230)).alloc (.cells #[.pointer (some ⟨12, 289, none⟩), .pointer (some ⟨w.heap.size, 0, none⟩), .int .u64 150] 230)).alloc (.cells #[.int .i64 k] 47))
    (by rw [World.cell?_alloc_at _ _ _ _ (by simp)]; rfl)
    (by rw [World.cell?_alloc_lt _ _ t (by simp; omega), World.cell?_alloc_lt _ _ t (by simp; omega), World.cell?_alloc_lt _ _ t (by simp; omega), World.cell?_alloc_lt _ _ t htl]; exact ht0)
    (by rw [World.frozen?_alloc_old _ _ t (by simp; omega), World.frozen?_alloc_old _ _ t (by simp; omega), World.frozen?_alloc_old _ _ t (by simp; omega), World.frozen?_alloc_old _ _ t (Nat.ne_of_lt htl)]; exact hf0)
  have hbl : b < w.heap.size := World.block_lt_of_cell? _ _ hc
  have hun := fun (W : World) (h : W.cell? ⟨b, 0, none⟩ = some (.int .i64 k)) => unwrap_at b k W h
  go_enter Tryz.func197, Tryz.ntmps197
  go_wp2
  refine wp_loop_rounds 2 ?_
  rw [rounds_succ]
  go_wp2_with fail
  refine (hun _ (by rw [World.cell?_alloc_lt _ _ ⟨b, 0, none⟩ (by simp; omega), World.cell?_alloc_lt _ _ ⟨b, 0, none⟩ (by simp; omega), World.cell?_alloc_lt _ _ ⟨b, 0, none⟩ hbl]; exact hc)).mono ?_
  rintro e w' ⟨rfl, rfl⟩
  go_wp2_with fail
  rw [rounds_succ]
  go_wp2
  go_ret
  exact ⟨rfl, rfl⟩
theorem tell_at (b : Nat) (k : Int) (w : World) (hg : ErrType w) (hc : w.cell? ⟨b, 0, none⟩ = some (.int .i64 k)) : Calls Tryz.prog 134 #[.iface 187 (.pointer (some ⟨b, 0, none⟩))] w fun e w' => e = .returned (.int .i64 k) ∧ Below w.heap.size w w' := by
  have HG : Hid (ErrType (w.alloc (.cells #[.int .i64 0] 47))) := hg.below ((Below.refl _ _).alloc (Nat.le_refl _) _)
  have hc2 : (w.alloc (.cells #[.int .i64 0] 47)).cell? ⟨b, 0, none⟩ = some (.int .i64 k) := (World.cell?_alloc_lt _ _ ⟨b, 0, none⟩ (World.block_lt_of_cell? _ _ hc)).trans hc
  clear hg
  go_enter Tryz.func134, Tryz.ntmps134
  go_wp2_with fail
  refine (as_at b k ⟨w.heap.size, 0, none⟩ (.int .i64 0) _ HG.out hc2 (by simp) (by simp)).mono ?_
  rintro e w' ⟨rfl, rfl⟩
  go_wp2
  go_ret
  refine ⟨rfl, ?_⟩
  exact ((((((Below.refl _ _).alloc (Nat.le_refl _) _).alloc (by simp) _).alloc (by simp; omega) _).alloc (by simp; omega) _).alloc (by simp; omega) _)
end Go.Proofs.YtcfgacdcgljbaaaGreatDoor
