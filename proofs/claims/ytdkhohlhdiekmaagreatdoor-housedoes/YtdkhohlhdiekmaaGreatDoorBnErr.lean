/-  -/
import Derived.Test.YtdkhohlhdiekmaaGreatDoorRows
import Derived.WalkKit
import Derived.ProofKit
import Derived.OpenShut
import Derived.WalkSpells
import Derived.WalkSmall
import Derived.LaidEql
import Derived.Stop.Asserts
import Derived.RowKitTokens
import Derived.Test.YtdkhohlhdiekmaaGreatDoorBnA
import Derived.Test.YtdkhohlhdiekmaaGreatDoorBnShelf
import Derived.Laws.RangeString
import Derived.Lib.AppendIntMem
import Derived.Lib.SmallJoins
namespace Go.Proofs.YtdkhohlhdiekmaaGreatDoor
open Go.RowKit Go.Extern.Stop Go.Stop Go.Extern
theorem m2 (h1:Value→Sem Value) (h2:Array Value→Sem Value) (v:Value):ReflectliteValue.method.match_2 (fun _=>Sem Value) #[v] h1 h2=h1 v:=rfl
theorem m3 (h1:Value→Value→Sem Value) (h2:Array Value→Sem Value) (v x:Value):ReflectliteValue.set.match_3 (fun _=>Sem Value) #[v,x] h1 h2=h1 v x:=rfl
theorem Tryz.valueOfP (t:Addr) (w:World):(ReflectliteValue.unpack (.iface 102 (.pointer (some t)))).run Tryz.prog w
  = .ok (.agg #[.pointer (some ⟨11,102,none⟩),.pointer (some ⟨w.heap.size,0,none⟩),.int .u64 150]) (w.alloc (.cells #[.pointer (some t)] 102)):=by kernel_rfl
theorem Tryz.typeP (a:Addr) (w:World):(ReflectliteValue.methodAny (ReflectliteValue.valueError "reflectlite.Value.Type" 0) (fun t _ _ _=>ReflectliteType.toType t) #[.agg #[.pointer (some ⟨11,102,none⟩),.pointer (some a),.int .u64 150]]).run Tryz.prog w
  = .ok (.iface 208 (.agg #[.pointer (some ⟨11,102,none⟩)])) w:=by kernel_rfl
theorem Tryz.methodKind (h:Value) (w:World):(Go.method 459 208 (.agg #[h]) "Kind").run Tryz.prog w = .ok (280,h) w:=by kernel_rfl
theorem Tryz.kindP (w:World):((ReflectliteType.abiMethod fun t=>(fun a:Nat=>Value.int IntKind.u8 (a:Int)) <$> Rtype.kind t) #[.pointer (some ⟨11,102,none⟩)]).run Tryz.prog w = .ok (.int .u8 22) w:=by kernel_rfl
theorem Tryz.kindE (w:World):((ReflectliteType.abiMethod fun t=>(fun a:Nat=>Value.int IntKind.u8 (a:Int)) <$> Rtype.kind t) #[.pointer (some ⟨11,43,none⟩)]).run Tryz.prog w = .ok (.int .u8 2) w:=by kernel_rfl
theorem Tryz.partsP (a:Addr) (w:World):(ReflectliteValue.parts (.agg #[.pointer (some ⟨11,102,none⟩),.pointer (some a),.int .u64 150])).run Tryz.prog w = .ok (some (102,a,150)) w:=by kernel_rfl
theorem Tryz.isNilP (a p:Addr) (W:World) (ha:W.cell? a=some (.pointer (some p))) :
  (ReflectliteValue.method (ReflectliteValue.valueError "reflectlite.Value.IsNil" 0) ReflectliteValue.isNil #[.agg #[.pointer (some ⟨11,102,none⟩),.pointer (some a),.int .u64 150]]).run Tryz.prog W = .ok (.bool false) W:=by
 delta ReflectliteValue.method
 rw [m2]
 simp only [Sem.run_bind,Tryz.partsP,Result.andThen]
 simp [ReflectliteValue.isNil,loadVar,isAgg,underlying,Tryz.underlying102,ha,Result.andThen]
theorem Tryz.methodElem (h:Value) (w:World):(Go.method 459 208 (.agg #[h]) "Elem").run Tryz.prog w = .ok (292,.agg #[h]) w:=by kernel_rfl
theorem Tryz.methodImplements (h:Value) (w:World):(Go.method 459 208 (.agg #[h]) "Implements").run Tryz.prog w = .ok (293,.agg #[h]) w:=by kernel_rfl
theorem Tryz.methodAssignableTo (h:Value) (w:World):(Go.method 459 208 (.agg #[h]) "AssignableTo").run Tryz.prog w = .ok (290,.agg #[h]) w:=by kernel_rfl
theorem Tryz.elemP (w:World):(ReflectliteType.method ReflectliteType.elem #[.agg #[.pointer (some ⟨11,102,none⟩)]]).run Tryz.prog w = .ok (.iface 208 (.agg #[.pointer (some ⟨11,43,none⟩)])) w:=by kernel_rfl
theorem Tryz.implementsE (w:World):(ReflectliteType.relation "Implements" ReflectliteType.implements_ #[.agg #[.pointer (some ⟨11,43,none⟩)],.iface 208 (.agg #[.pointer (some ⟨11,47,none⟩)])]).run Tryz.prog w = .ok (.bool true) w:=by kernel_rfl
theorem Tryz.typeOfE (v:Value) (w:World):(ReflectliteType.typeOf #[.iface 43 v]).run Tryz.prog w = .ok (.iface 208 (.agg #[.pointer (some ⟨11,43,none⟩)])) w:=by kernel_rfl
theorem Tryz.assignableE (w:World):(ReflectliteType.relation "AssignableTo" ReflectliteType.assignableTo #[.agg #[.pointer (some ⟨11,43,none⟩)],.iface 208 (.agg #[.pointer (some ⟨11,43,none⟩)])]).run Tryz.prog w = .ok (.bool true) w:=by kernel_rfl
theorem Tryz.valueOfE (k:Int) (w:World):(ReflectliteValue.unpack (.iface 43 (.int .i64 k))).run Tryz.prog w
  = .ok (.agg #[.pointer (some ⟨11,43,none⟩),.pointer (some ⟨w.heap.size,0,none⟩),.int .u64 130]) (w.alloc (.cells #[.int .i64 k] 43)):=by kernel_rfl
theorem Tryz.elemOfP (w:World):(Rtype.elem? 102).run Tryz.prog w = .ok (some 43) w:=by kernel_rfl
theorem Tryz.mkE (p:Addr) (w:World):(ReflectliteValue.mk 43 p ReflectliteValue.flagAddr).run Tryz.prog w = .ok (.agg #[.pointer (some ⟨11,43,none⟩),.pointer (some p),.int .u64 386]) w:=by kernel_rfl
theorem Tryz.elemVP (a p:Addr) (W:World) (ha:W.cell? a=some (.pointer (some p))) :
  (ReflectliteValue.method (ReflectliteValue.valueError "reflectlite.Value.Elem" 0) ReflectliteValue.elem #[.agg #[.pointer (some ⟨11,102,none⟩),.pointer (some a),.int .u64 150]]).run Tryz.prog W
   = .ok (.agg #[.pointer (some ⟨11,43,none⟩),.pointer (some p),.int .u64 386]) W:=by
 delta ReflectliteValue.method
 rw [m2]
 simp only [Sem.run_bind,Tryz.partsP,Result.andThen]
 simp [ReflectliteValue.elem,loadVar,isAgg,underlying,Tryz.underlying102,ha,Result.andThen,Tryz.elemOfP,Tryz.mkE]
theorem Tryz.partsEa (a:Addr) (w:World):(ReflectliteValue.parts (.agg #[.pointer (some ⟨11,43,none⟩),.pointer (some a),.int .u64 386])).run Tryz.prog w = .ok (some (43,a,386)) w:=by kernel_rfl
theorem Tryz.partsE (a:Addr) (w:World):(ReflectliteValue.parts (.agg #[.pointer (some ⟨11,43,none⟩),.pointer (some a),.int .u64 130])).run Tryz.prog w = .ok (some (43,a,130)) w:=by kernel_rfl
theorem Tryz.directE (w:World):(Rtype.directlyAssignable 43 43).run Tryz.prog w = .ok true w:=by kernel_rfl
theorem Tryz.setE (ta b:Addr) (k:Int) (old:Value) (W:World) (hb:W.cell? b=some (.int .i64 k)) (ht:W.cell? ta=some old) (hf:W.frozen? ta=false) :
  (ReflectliteValue.set #[.agg #[.pointer (some ⟨11,43,none⟩),.pointer (some ta),.int .u64 386],.agg #[.pointer (some ⟨11,43,none⟩),.pointer (some b),.int .u64 130]]).run Tryz.prog W
   = .ok (.tuple #[]) (W.setCell ta (.int .i64 k)):=by
 delta ReflectliteValue.set
 rw [m3]
 simp only [Sem.run_bind,Tryz.partsEa,Tryz.partsE,Result.andThen]
 simp [ReflectliteValue.flagAddr,loadVar,isAgg,underlying,Tryz.underlying43,hb,Result.andThen,Tryz.directE,storeVar,Value.cells,storeCells,Addr.add]
 rw [run_store Tryz.prog W ta _ _ (by rfl)]
 simp [ht,hf]
def ErrType (w:World):Prop:=w.cell? ⟨0,0,none⟩=some (.iface 208 (.agg #[.pointer (some ⟨11,47,none⟩)]))
theorem ErrType.below {w w':World} (h:ErrType w) (hb:Below w.heap.size w w'):ErrType w':=by
 unfold ErrType at h ⊢
 rw [hb.cell (p:=⟨0,0,none⟩) (World.block_lt_of_cell? _ _ h)];exact h
set_option maxHeartbeats 4000000 in
theorem as_errno (k:Int) (t:Addr) (old:Value) (w:World) (hg:ErrType w) (ht0:w.cell? t=some old) (hf0:w.frozen? t=false) :
  Calls Tryz.prog 44 #[.iface 43 (.int .i64 k),.iface 102 (.pointer (some t))] w fun ev w'=>ev = .returned (.bool true)∧w'=((((w.alloc (.cells #[.pointer (some t)] 102)).alloc (.cells #[.pointer (some ⟨11,102,none⟩),.pointer (some ⟨w.heap.size,0,none⟩),.int .u64 150] 145)).alloc (.cells #[.pointer (some ⟨11,102,none⟩),.pointer (some ⟨w.heap.size,0,none⟩),.int .u64 150] 145)).alloc (.cells #[.int .i64 k] 43)).setCell t (.int .i64 k):=by
 unfold ErrType at hg
 have h6:=@run_callFunc_extern Tryz.prog 83 _ (fun args=>ReflectliteValue.unpack (args.getD 0 (.tuple #[]))) Tryz.func83 (by kernel_rfl) (by kernel_rfl) (by kernel_rfl) (by kernel_rfl)
 have h7:=@run_callFunc_extern Tryz.prog 84 _ (ReflectliteValue.methodAny (ReflectliteValue.valueError "reflectlite.Value.Type" 0) (fun t _ _ _=>ReflectliteType.toType t)) Tryz.func84 (by kernel_rfl) (by kernel_rfl) (by kernel_rfl) (by kernel_rfl)
 have h8:=@run_callFunc_extern Tryz.prog 85 _ (ReflectliteValue.method (ReflectliteValue.valueError "reflectlite.Value.IsNil" 0) ReflectliteValue.isNil) Tryz.func85 (by kernel_rfl) (by kernel_rfl) (by kernel_rfl) (by kernel_rfl)
 have h27:=@run_callFunc_extern Tryz.prog 280 _ (ReflectliteType.abiMethod fun t=>do pure (.int .u8 (← Rtype.kind t))) Tryz.func280 (by kernel_rfl) (by kernel_rfl) (by kernel_rfl) (by kernel_rfl)
 have h37:=@run_callFunc_extern Tryz.prog 292 _ (ReflectliteType.method ReflectliteType.elem) Tryz.func292 (by kernel_rfl) (by kernel_rfl) (by kernel_rfl) (by kernel_rfl)
 have h38:=@run_callFunc_extern Tryz.prog 293 _ (ReflectliteType.relation "Implements" ReflectliteType.implements_) Tryz.func293 (by kernel_rfl) (by kernel_rfl) (by kernel_rfl) (by kernel_rfl)
 have h10:=@run_callFunc_extern Tryz.prog 129 _ ReflectliteType.typeOf Tryz.func129 (by kernel_rfl) (by kernel_rfl) (by kernel_rfl) (by kernel_rfl)
 have h35:=@run_callFunc_extern Tryz.prog 290 _ (ReflectliteType.relation "AssignableTo" ReflectliteType.assignableTo) Tryz.func290 (by kernel_rfl) (by kernel_rfl) (by kernel_rfl) (by kernel_rfl)
 have h11:=@run_callFunc_extern Tryz.prog 130 _ (ReflectliteValue.method (ReflectliteValue.valueError "reflectlite.Value.Elem" 0) ReflectliteValue.elem) Tryz.func130 (by kernel_rfl) (by kernel_rfl) (by kernel_rfl) (by kernel_rfl)
 have h12:=@run_callFunc_extern Tryz.prog 131 _ ReflectliteValue.set Tryz.func131 (by kernel_rfl) (by kernel_rfl) (by kernel_rfl) (by kernel_rfl)
 have tO:=Tryz.typeOfE
 have mA:=Tryz.methodAssignableTo
 have aE:=Tryz.assignableE
 have vE:=Tryz.valueOfE
 have f6:=Tryz.valueOfP
 have f7:=Tryz.typeP
 have mK:=Tryz.methodKind
 have mE:=Tryz.methodElem
 have mI:=Tryz.methodImplements
 have kP:=Tryz.kindP
 have kE:=Tryz.kindE
 have eP:=Tryz.elemP
 have iE:=Tryz.implementsE
 have n8:=Tryz.isNilP ⟨w.heap.size,0,none⟩ t ((w.alloc (.cells #[.pointer (some t)] 102)).alloc (.cells #[.pointer (some ⟨11,102,none⟩),.pointer (some ⟨w.heap.size,0,none⟩),.int .u64 150] 145)) (by simp)
 have hlt:0 < w.heap.size:=World.block_lt_of_cell? _ _ hg
 have hg2:((w.alloc (.cells #[.pointer (some t)] 102)).alloc (.cells #[.pointer (some ⟨11,102,none⟩),.pointer (some ⟨w.heap.size,0,none⟩),.int .u64 150] 145)).cell? ⟨0,0,none⟩=some (.iface 208 (.agg #[.pointer (some ⟨11,47,none⟩)])):=by
  rw [World.cell?_alloc_lt _ _ ⟨0,0,none⟩ (by simp <;> omega),World.cell?_alloc_lt _ _ ⟨0,0,none⟩ hlt];exact hg
 have htl:t.block < w.heap.size:=World.block_lt_of_cell? _ _ ht0
 have el:=Tryz.elemVP ⟨w.heap.size,0,none⟩ t (((w.alloc (.cells #[.pointer (some t)] 102)).alloc (.cells #[.pointer (some ⟨11,102,none⟩),.pointer (some ⟨w.heap.size,0,none⟩),.int .u64 150] 145)).alloc (.cells #[.pointer (some ⟨11,102,none⟩),.pointer (some ⟨w.heap.size,0,none⟩),.int .u64 150] 145)) (by rw [World.cell?_alloc_lt _ _ ⟨w.heap.size,0,none⟩ (by simp;omega)];simp)
 have st:=Tryz.setE t ⟨w.heap.size + 1 + 1 + 1,0,none⟩ k old ((((w.alloc (.cells #[.pointer (some t)] 102)).alloc (.cells #[.pointer (some ⟨11,102,none⟩),.pointer (some ⟨w.heap.size,0,none⟩),.int .u64 150] 145)).alloc (.cells #[.pointer (some ⟨11,102,none⟩),.pointer (some ⟨w.heap.size,0,none⟩),.int .u64 150] 145)).alloc (.cells #[.int .i64 k] 43))
  (by rw [World.cell?_alloc_at _ _ _ _ (by simp)];rfl)
  (by rw [World.cell?_alloc_lt _ _ t (by simp;omega),World.cell?_alloc_lt _ _ t (by simp;omega),World.cell?_alloc_lt _ _ t (by simp;omega),World.cell?_alloc_lt _ _ t htl];exact ht0)
  (by rw [World.frozen?_alloc_old _ _ t (by simp;omega),World.frozen?_alloc_old _ _ t (by simp;omega),World.frozen?_alloc_old _ _ t (by simp;omega),World.frozen?_alloc_old _ _ t (Nat.ne_of_lt htl)];exact hf0)
 go_enter Tryz.func44,Tryz.ntmps44
 go_wp2
 refine wp_loop_rounds 1 ?_
 rw [rounds_succ]
 go_wp2
 go_ret
 exact ⟨rfl,rfl⟩
end Go.Proofs.YtdkhohlhdiekmaaGreatDoor
namespace Go.Proofs.YtdkhohlhdiekmaaGreatDoor
open Go.RowKit
set_option maxHeartbeats 1000000 in
theorem tell_nil (w:World):Calls Tryz.prog 20 #[.nilIface] w fun e w'=>e = .returned (.int .i64 0)∧w'=w:=by
 go_enter Tryz.func20,Tryz.ntmps20
 go_wp2
 go_ret
 exact ⟨rfl,rfl⟩
set_option maxHeartbeats 1000000 in
theorem tell_errno (k:Int) (w:World) (hg:ErrType w):Calls Tryz.prog 20 #[.iface 43 (.int .i64 k)] w fun e w'=>e = .returned (.int .i64 k)∧Below w.heap.size w w':=by
 have HG:Hid (ErrType (w.alloc (.cells #[.int .i64 0] 43))):=hg.below ((Below.refl _ _).alloc (Nat.le_refl _) _)
 clear hg
 go_enter Tryz.func20,Tryz.ntmps20
 go_wp2_with fail
 refine (as_errno k ⟨w.heap.size,0,none⟩ (.int .i64 0) _ HG.out (by simp) (by simp)).mono ?_
 rintro e w' ⟨rfl,rfl⟩
 go_wp2
 go_ret
 refine ⟨rfl,?_⟩
 exact ((((((Below.refl _ _).alloc (Nat.le_refl _) _).alloc (by simp) _).alloc (by simp;omega) _).alloc (by simp;omega) _).alloc (by simp;omega) _)
theorem Tryz.noUnwrap (v:Value) (xT:TypeId) (w:World):(Instr.typeAssert (.iface 43 v) xT 187 true).run Tryz.prog w = .ok (.tuple #[.nilIface,.bool false]) w:=run_typeAssert_lacksB Tryz.underlying187 (by kernel_rfl) (by kernel_rfl) v xT w
theorem Tryz.noAt (k:Int) (xT:TypeId) (w:World):(Instr.typeAssert (.iface 43 (.int .i64 k)) xT 184 true).run Tryz.prog w = .ok (.tuple #[.pointer none,.bool false]) w:=by kernel_rfl
set_option maxHeartbeats 1000000 in
theorem place_nil (w:World):Calls Tryz.prog 66 #[.nilIface] w fun e w'=>e = .returned (.tuple #[.int .i64 0,.int .i64 (-1)])∧w'=w:=by
 go_enter Tryz.func66,Tryz.ntmps66
 go_wp2_with (go_at_call 20;refine (tell_nil _).mono ?_;rintro e w' ⟨rfl,hw⟩;subst w')
 refine wp_loop_rounds 1 ?_
 rw [rounds_succ]
 go_wp2
 go_ret2
 exact ⟨rfl,rfl⟩
set_option maxHeartbeats 1000000 in
theorem place_errno (k:Int) (w:World) (hg:ErrType w):Calls Tryz.prog 66 #[.iface 43 (.int .i64 k)] w fun e w'=>e = .returned (.tuple #[.int .i64 k,.int .i64 (-1)])∧Below w.heap.size w w':=by
 have h1:=Tryz.noUnwrap
 have h2:=Tryz.noAt
 go_enter Tryz.func66,Tryz.ntmps66
 go_wp2_with (go_at_call 20;refine (tell_errno k _ hg).mono ?_;rintro e w1 ⟨rfl,hb⟩)
 refine wp_loop_rounds 1 ?_
 rw [rounds_succ]
 go_wp2
 go_ret2
 exact ⟨rfl,hb⟩
theorem fault_mk (k:Int) (w:World):Calls Tryz.prog 27 #[.int .i64 k] w fun e w'=>e = .returned (.agg #[.int .i64 k,.int .i64 (-1)])∧w'=w.alloc (.cells #[.int .i64 k,.int .i64 (-1)] 74):=by
 go_enter Tryz.func27,Tryz.ntmps27
 go_wp2
 exact bodyPost_ret (v:=.agg #[.int .i64 k,.int .i64 (-1)]) (by simp [results,Tryz.results27,go_sem]) rfl ⟨rfl,rfl⟩
theorem cells2_below {w w1:World} {c:Array Value} {t:TypeId} (hb:Below (w.alloc (.cells c t)).heap.size (w.alloc (.cells c t)) w1) (j:Nat):w1.cell? ⟨w.heap.size,j,none⟩=(w.alloc (.cells c t)).cell? ⟨w.heap.size,j,none⟩:=
 hb.cell (p:=⟨w.heap.size,j,none⟩) (by simp)
set_option maxHeartbeats 1000000 in
theorem is_nil (w:World):Calls Tryz.prog 26 #[.nilIface,.agg #[.int .i64 0,.int .i64 (-1)]] w fun e w'=>e = .returned (.bool true)∧Below w.heap.size w w':=by
 go_enter Tryz.func26,Tryz.ntmps26
 go_wp2_with (go_at_call 66;refine (place_nil _).mono ?_;rintro e w' ⟨rfl,hw⟩;subst w')
 go_ret
 exact ⟨rfl,(Below.refl _ _).alloc (Nat.le_refl _) _⟩
set_option maxHeartbeats 1000000 in
theorem is_errno (k:Int) (w:World) (hg:ErrType w):Calls Tryz.prog 26 #[.iface 43 (.int .i64 k),.agg #[.int .i64 k,.int .i64 (-1)]] w fun e w'=>e = .returned (.bool true)∧Below w.heap.size w w':=by
 have HG:Hid (ErrType (w.alloc (.cells #[.int .i64 k,.int .i64 (-1)] 74))):=hg.below ((Below.refl _ _).alloc (Nat.le_refl _) _)
 clear hg
 go_enter Tryz.func26,Tryz.ntmps26
 go_wp2_with (go_at_call 66;refine (place_errno k _ HG.out).mono ?_;rintro e w1 ⟨rfl,hb⟩;have c0:=cells2_below hb 0;have c1:=cells2_below hb 1;simp at c0 c1)
 go_ret
 exact ⟨rfl,((Below.refl _ _).alloc (Nat.le_refl _) _).trans (hb.mono (by simp))⟩
theorem bare_nil (w:World):Calls Tryz.prog 9 #[.nilIface,.int .i64 0] w fun e w'=>e = .returned (.bool true)∧Below w.heap.size w w':=by
 go_enter Tryz.func9,Tryz.ntmps9
 go_wp2_with (first
  | (go_at_call 27;refine (fault_mk _ _).mono ?_;rintro e w' ⟨rfl,hw⟩;subst w')
  | (go_at_call 26;refine (is_nil _).mono ?_;rintro e w1 ⟨rfl,hb⟩))
 go_ret
 exact ⟨rfl,((Below.refl _ _).alloc (Nat.le_refl _) _).trans (hb.mono (by simp))⟩
theorem bare_errno (k:Int) (w:World) (hg:ErrType w):Calls Tryz.prog 9 #[.iface 43 (.int .i64 k),.int .i64 k] w fun e w'=>e = .returned (.bool true)∧Below w.heap.size w w':=by
 have HG:Hid (ErrType (w.alloc (.cells #[.int .i64 k,.int .i64 (-1)] 74))):=hg.below ((Below.refl _ _).alloc (Nat.le_refl _) _)
 clear hg
 go_enter Tryz.func9,Tryz.ntmps9
 go_wp2_with (first
  | (go_at_call 27;refine (fault_mk _ _).mono ?_;rintro e w' ⟨rfl,hw⟩;subst w')
  | (go_at_call 26;refine (is_errno k _ HG.out).mono ?_;rintro e w1 ⟨rfl,hb⟩))
 go_ret
 exact ⟨rfl,((Below.refl _ _).alloc (Nat.le_refl _) _).trans (hb.mono (by simp))⟩
structure Glob (w:World):Prop where
 et:ErrType w
 tab:Lib.TabIs Tryz.prog w "internal/strconv.uint64pow10" .u64 Lib.pow10Tab
 syn:∃ tp p,w.var? Tryz.prog "strconv.ErrSyntax" = some #[.iface tp p]
 rng:∃ tp p,w.var? Tryz.prog "strconv.ErrRange" = some #[.iface tp p]
 ml:∃ m,w.cell? ⟨1,0,none⟩=some (.int .i64 m)
theorem Tryz.gTab:Tryz.prog.globalNamed "internal/strconv.uint64pow10" = some 4:=by kernel_rfl
theorem Tryz.gSyn:Tryz.prog.globalNamed "strconv.ErrSyntax" = some 2:=by kernel_rfl
theorem Tryz.gRng:Tryz.prog.globalNamed "strconv.ErrRange" = some 3:=by kernel_rfl
theorem var_lt {P:Program} {w:World} {n:String} {g:Nat} {cs:Array Value} (hg:P.globalNamed n=some g) (hv:w.var? P n=some cs):g < w.heap.size:=by
 unfold World.var? at hv
 simp only [hg,Option.bind_some] at hv
 rcases Nat.lt_or_ge g w.heap.size with h | h
 ·exact h
 ·simp [Array.getElem?_eq_none h] at hv
theorem Glob.below {w w':World} (h:Glob w) (hb:Below w.heap.size w w'):Glob w':=by
 obtain ⟨et,tab,⟨tp,p,syn⟩,⟨tq,q,rng⟩,⟨m,ml⟩⟩:=h
 refine ⟨et.below hb,var?_below hb Tryz.gTab (var_lt Tryz.gTab tab) tab,⟨tp,p,var?_below hb Tryz.gSyn (var_lt Tryz.gSyn syn) syn⟩,⟨tq,q,var?_below hb Tryz.gRng (var_lt Tryz.gRng rng) rng⟩,⟨m,?_⟩⟩
 rw [hb.cell (p:=⟨1,0,none⟩) (World.block_lt_of_cell? _ _ ml)];exact ml
theorem atoi_any (s:ByteArray) (w:World) (hg:Glob w) (hs:s.size≤281474976710656) :
  Calls Tryz.prog 88 #[.string s] w fun e w'=>
   ((∃ v,Lib.atoiAll s.data.toList = .ok v∧e = .returned (.tuple #[.int .i64 v,.nilIface]))∨(∃ (x:Int) (tq:TypeId) (q:Value),(∀ v,Lib.atoiAll s.data.toList ≠ .ok v)∧e = .returned (.tuple #[.int .i64 x,.iface tq q])))∧Below w.heap.size w w':=by
 obtain ⟨tp,p,hsyn⟩:=hg.syn
 obtain ⟨tr,r,hrng⟩:=hg.rng
 rcases h:Lib.atoiAll s.data.toList with v | _ | _
 ·refine (Tryz.strconv_Atoi_ok s (by omega) v h w).mono fun e w' ⟨he,hw⟩=>?_
  refine ⟨.inl ⟨v,rfl,he⟩,?_⟩
  rcases hw with rfl | ⟨t,rfl⟩
  ·exact Below.refl _ _
  ·exact Go.Joins.below_bytesWorld _ _ _ _ (Nat.le_refl _)
 ·refine (Any.strconv_Atoi_syntax_var Tryz.laysC172 s hs h tp p w hsyn).mono fun e w' ⟨N,he,_,_,hb⟩=>?_
  exact ⟨.inr ⟨0,_,_,fun v hv=>(by cases hv),he⟩,hb⟩
 ·refine (Tryz.strconv_Atoi_range_var s hs h tr r w hrng).mono fun e w' ⟨N,he,_,_,hb⟩=>?_
  exact ⟨.inr ⟨_,_,_,fun v hv=>(by cases hv),he⟩,hb⟩
theorem hid {p:Prop} (h:p):Hid p:=h
end Go.Proofs.YtdkhohlhdiekmaaGreatDoor
