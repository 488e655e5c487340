/- sort.Slice at the document's holdings. -/
import Derived.Test.YtcfgacdcgljbaaaGreatDoorBnF
import Derived.Test.YtcfgacdcgljbaaaGreatDoorBpB
import Derived.Test.YtcfgacdcgljbaaaGreatDoorShS
import Derived.Test.YtcfgacdcgljbaaaGreatDoorBnB
import Derived.RangeFuncBox
import Derived.Shelf.SlSortFuncK.WholeK
import Derived.Sort.Walk0
namespace Go.Proofs.YtcfgacdcgljbaaaGreatDoor
open Go.RowKit Go.Lib Go.Sort Go.Shelf
/-- A holding of the document's. -/
structure Hld where
  item : ByteArray
  q : Int
  v : Int
  deriving Inhabited
def rhC (b : Hld) : List Value := [.string b.item, .int .i64 b.q, .int .i64 b.v]
theorem rhC_len (b : Hld) : (rhC b).length = 3 := rfl
theorem rhC_one (b : Hld) : ∀ u ∈ rhC b, u.oneCell' = true := by
  intro u hu
  simp only [rhC, List.mem_cons, List.not_mem_nil, or_false] at hu
  rcases hu with rfl | rfl | rfl <;> rfl
/-- Holdings in the making. -/
structure HoAt (W : World) (ob : Nat) (ov : Value) (out : List Hld) : Prop where
  box : Boxed W ob 100 ov
  row : W.ownsRow ob 103 3 ov out.length (out.flatMap rhC)
theorem HoAt.below {W W' : World} {ob : Nat} {ov : Value} {out : List Hld} (h : HoAt W ob ov out) (hb : RowKit.Below W.heap.size W W') : HoAt W' ob ov out :=
  ⟨(hb.block _ h.box.lt).trans h.box, own_below h.row hb (Nat.le_refl _)⟩
/-- It tells which of two stands ahead. -/
def LessH (f : Nat) : Prop := ∀ (g off n c ob i j : Nat) (a b : ByteArray) (W : World), i < n → j < n → W.cell? ⟨ob, 0, none⟩ = some (.slice (some ⟨g, off, none⟩) n c) → W.cell? ⟨g, off + i * 3, none⟩ = some (.string a) → W.cell? ⟨g, off + j * 3, none⟩ = some (.string b) →
  Calls Tryz.prog f (#[.int .i64 i, .int .i64 j] ++ #[.pointer (some ⟨ob, 0, none⟩)]) W fun e w' => e = .returned (.bool (Op.bytesLess a.toList b.toList)) ∧ ∃ q, w' = W.drewN q
def SortsH (f : Nat) : Prop := ∀ (W : World) (ob : Nat) (ov : Value) (out : List Hld), HoAt W ob ov out → out.length ≤ 2000 →
  Calls Tryz.prog 72 #[.iface 100 ov, .func (.func f) #[] #[.pointer (some ⟨ob, 0, none⟩)]] W fun r W' => r = .returned (.tuple #[]) ∧ ∃ out' : List Hld, out'.Perm out ∧ (out'.Pairwise fun a b => a.item.data.toList ≤ b.item.data.toList) ∧ HoAt W' ob ov out' ∧ RowKit.Below ob W W'
set_option maxHeartbeats 1000000 in
theorem lessAt : LessH 87 := fun g off n c ob i j a b W hi hj hb h1 h2 => by
  have hiz : (i : Int) < (n : Int) := by omega
  have hjz : (j : Int) < (n : Int) := by omega
  have mixed : Tryz.prog.follows .mixedOrders = true := by kernel_rfl
  go_enter Tryz.func87, Tryz.ntmps87
  go_wp2_with fail
  go_quiet (fail)
  go_wp2
  go_ret
  exact ⟨rfl, nq, rfl⟩
set_option maxHeartbeats 1000000 in
theorem lessDiff : LessH 89 := fun g off n c ob i j a b W hi hj hb h1 h2 => by
  have hiz : (i : Int) < (n : Int) := by omega
  have hjz : (j : Int) < (n : Int) := by omega
  have mixed : Tryz.prog.follows .mixedOrders = true := by kernel_rfl
  go_enter Tryz.func89, Tryz.ntmps89
  go_wp2_with fail
  go_quiet (fail)
  go_wp2
  go_ret
  exact ⟨rfl, nq, rfl⟩
noncomputable def Tryz.hoT : TypeInfo := (Tryz.prog.info? 100).get (by kernel_rfl)
noncomputable def Tryz.hoE : TypeInfo := (Tryz.prog.info? 103).get (by kernel_rfl)
theorem Tryz.hoTi : Tryz.prog.info? 100 = some Tryz.hoT := by kernel_rfl
theorem Tryz.hoEi : Tryz.prog.info? 103 = some Tryz.hoE := by kernel_rfl
theorem kind_ho (w : World) : (Extern.Rtype.kind 103).run Tryz.prog w = .ok 25 w := by kernel_rfl
theorem agg_ho (w : World) : (isAgg 103).run Tryz.prog w = .ok true w := by kernel_rfl
def ltH (a b : Hld) : Bool := Op.bytesLess a.item.toList b.item.toList
theorem ltH_iff (a b : Hld) : ltH a b = true ↔ a.item.data.toList < b.item.data.toList := by
  unfold ltH
  rw [bytesLess_eq, ByteArray.toList_eq, ByteArray.toList_eq]
  simp
theorem insertion_fewH (x y : Value) (n : Nat) (hn : n ≤ 1) (w : World) : Calls Tryz.prog 178 #[.agg #[x, y], .int .i64 0, .int .i64 n] w fun e w' => e = .returned (.tuple #[]) ∧ RowKit.Below w.heap.size w w' := by
  have hnz : ¬ (1 : Int) < (n : Int) := by omega
  go_enter Tryz.func178, Tryz.ntmps178
  go_wp2
  refine wp_loop_rounds 1 ?_
  rw [rounds_succ]
  go_wp2
  go_end0
  exact ⟨rfl, (RowKit.Below.refl _ _).alloc (Nat.le_refl _) _⟩
theorem pdq_fewH (x y : Value) (n : Nat) (hn : n ≤ 1) (lim : Int) (w : World) : Calls Tryz.prog 122 #[.agg #[x, y], .int .i64 0, .int .i64 n, .int .i64 lim] w fun e w' => e = .returned (.tuple #[]) ∧ RowKit.Below w.heap.size w w' := by
  have hnz : ¬ (12 : Int) < (n : Int) := by omega
  have hin := fun W : World => insertion_fewH x y n hn W
  go_enter Tryz.func122, Tryz.ntmps122
  go_wp2
  refine wp_loop_rounds 1 ?_
  rw [rounds_succ]
  go_wp2_with fail
  refine (hin _).mono ?_
  rintro r w1 ⟨rfl, hb⟩
  have HB : Hid (RowKit.Below w.heap.size w w1) := ((RowKit.Below.refl _ _).alloc (Nat.le_refl _) _).trans (hb.mono (by simp))
  clear hin hb
  go_wp2
  refine bodyPost_ret (results_none (by rfl) _ _ _) rfl ?_
  exact ⟨rfl, HB.out⟩
theorem ltH_no (a b : Hld) : ltH a b = false ↔ b.item.data.toList ≤ a.item.data.toList := by
  rw [Bool.eq_false_iff, Ne, ltH_iff]
  exact List.not_lt
theorem swo_ltH : SWO ltH where
  irrefl x := (ltH_no x x).2 (List.le_refl _)
  trans x y z h1 h2 := (ltH_iff x z).2 (List.lt_trans ((ltH_iff x y).1 h1) ((ltH_iff y z).1 h2))
  ntrans x y z h1 h2 := (ltH_no x z).2 (List.le_trans ((ltH_no y z).1 h2) ((ltH_no x y).1 h1))
theorem Tryz.hoK (n : Nat) (h2 : 2 ≤ n) : Lib.swapperK n Tryz.hoE 25 = 9 := by
  have a : Tryz.hoE.hasPointers = true := by kernel_rfl
  have b : (Tryz.hoE.bytes == 8) = false := by kernel_rfl
  have c : (n == 0) = false := by simp; omega
  have d : (n == 1) = false := by simp; omega
  simp [Lib.swapperK, a, b, c, d]
theorem swap_litH (args : Array Value) (W : World) : (callFunc 177 args).run Tryz.prog W = ((Extern.ReflectliteSwapper.swap false args).run Tryz.prog W).andThen fun v w' => .ok (.value v) w' :=
  run_callFunc_extern Tryz.func177 (by kernel_rfl) (by kernel_rfl) (by kernel_rfl) (e := Extern.ReflectliteSwapper.swap false) (by kernel_rfl) args W
theorem sort_manyH {f : Nat} (ef : ∀ args w, (callFunc f args).run Tryz.prog w = .ok (.enter f args) w) (hle : LessH f) (W : World) (ob g c : Nat) (out : List Hld) (h : HoAt W ob (.slice (some ⟨g, 0, none⟩) out.length c) out) (h2 : 2 ≤ out.length) (hl : out.length ≤ 2000) :
    Calls Tryz.prog 72 #[.iface 100 (.slice (some ⟨g, 0, none⟩) out.length c), .func (.func f) #[] #[.pointer (some ⟨ob, 0, none⟩)]] W fun r W' => r = .returned (.tuple #[]) ∧ ∃ out' : List Hld, out'.Perm out ∧ (out'.Pairwise fun a b => a.item.data.toList ≤ b.item.data.toList) ∧ HoAt W' ob (.slice (some ⟨g, 0, none⟩) out.length c) out' ∧ RowKit.Below ob W W' := by
  have hne : ob ≠ g := fun e => h.box.not_row (by decide) h.row (by rw [e]; rfl)
  have hgl : g < W.heap.size := (h.row.lt g rfl).2
  have hH := holdsK_of_own rhC_len h.row
  have hless : LessReadsK Tryz.prog f #[.pointer (some ⟨ob, 0, none⟩)] rhC 3 ltH g 0 out.toArray.size W := by
    intro m os dk hs i j hi hj
    have hHk : HoldsK rhC 3 (sortWorldK rhC 3 W g 0 m dk os) g 0 dk := by
      unfold sortWorldK
      exact holdsK_grow _ _ _ _ _ _ _ (by simpa [putRowK, putRow, mapBlock, Sort.ahead] using hgl) (holdsK_putRowK _ _ _ _ _ out.toArray _ (holdsK_ahead _ _ _ _ _ _ _ hH) hs)
    have hob : ob < W.heap.size := h.box.lt
    have hbx : (sortWorldK rhC 3 W g 0 m dk os).cell? ⟨ob, 0, none⟩ = some (.slice (some ⟨g, 0, none⟩) out.length c) := by
      have h1 : (putRowK rhC 3 (Sort.ahead W m) g 0 dk).cell? ⟨ob, 0, none⟩ = some (.slice (some ⟨g, 0, none⟩) out.length c) := (cell?_putRowK_other _ _ _ _ _ _ _ hne).trans h.box.cell
      unfold sortWorldK
      rw [Sort.cell?_grow _ _ _ (by simpa [putRowK, putRow, mapBlock, Sort.ahead] using hob)]
      exact h1
    have hsz : out.toArray.size = out.length := by simp
    have a1 := (hHk.cell (i := i) (c := 0) (by omega) (by omega)).1
    have a2 := (hHk.cell (i := j) (c := 0) (by omega) (by omega)).1
    have hc := hle g 0 out.length c ob i j dk[i]!.item dk[j]!.item _ (by omega) (by omega) hbx (by simpa [rhC] using a1) (by simpa [rhC] using a2)
    exact hc
  have hc := Any.sort_Slice_cells_sorted (P := Tryz.prog) Tryz.laysGg6 100 103 Tryz.hoT Tryz.hoE Tryz.hoTi (by kernel_rfl) (by kernel_rfl) Tryz.hoEi 25 kind_ho rhC 3 rhC_len (by kernel_rfl) agg_ho rhC_one ltH swo_ltH f #[.pointer (some ⟨ob, 0, none⟩)]
    ef g 0 c out.toArray (by simpa using h2) (by simp; omega) 177 (by rw [Tryz.hoK _ (by simpa using h2)]; kernel_rfl) false swap_litH W hless hH hgl
  refine hc.mono ?_
  rintro r W' ⟨rfl, d', n, os, hp, hs, hw⟩
  obtain ⟨hd1, _, hd3⟩ := hp
  have hlen : d'.toList.length = out.length := by simpa using hd1
  have hperm : d'.toList.Perm out := by
    have e1 : (d'.extract 0 out.toArray.size).toList = d'.toList := by rw [← hd1]; simp
    have e2 : (out.toArray.extract 0 out.toArray.size).toList = out := by simp
    rw [e1, e2] at hd3
    exact hd3
  refine ⟨rfl, d'.toList, hperm, ?_, ?_, ?_⟩
  · rw [List.pairwise_iff_getElem]
    intro i j hi hj hij
    have h1 := hs i j (Nat.zero_le _) hij (by simpa [← hd1] using hj)
    rw [ltH_no] at h1
    have hi' : i < d'.size := by simpa using hi
    have hj' : j < d'.size := by simpa using hj
    rw [getElem!_pos d' i hi', getElem!_pos d' j hj'] at h1
    simpa using h1
  · have hW : W' = sortWorldK rhC 3 W g 0 n d'.toList.toArray os := by rw [hw]; rfl
    have hr := own_sorted (q := n) (os := os) (l' := d'.toList) rhC_len h.row hlen
    rw [← hW] at hr
    refine ⟨?_, by rw [hlen]; exact hr⟩
    show W'.heap[ob]? = _
    rw [hw, heap_grow_old _ _ (by simpa [putRowK, putRow, mapBlock, Sort.ahead] using h.box.lt)]
    have hg' : ¬ g = ob := fun e => hne e.symm
    have hbx : W.heap[ob]? = some (Obj.cells #[Value.slice (some ⟨g, 0, none⟩) out.length c] 100) := h.box
    simpa [putRowK, putRow, mapBlock, Sort.ahead, Array.getElem?_modify, hg'] using hbx
  · have hog : ob ≤ g := (h.row.lt g rfl).1
    rw [hw]
    refine ⟨rfl, rfl, rfl, by simp [putRowK, putRow, mapBlock, Sort.ahead, Sort.grow], fun j hj => ?_⟩
    have hjl : j < W.heap.size := Nat.lt_trans hj h.box.lt
    have hg' : ¬ g = j := by omega
    rw [heap_grow_old _ _ (by simpa [putRowK, putRow, mapBlock, Sort.ahead] using hjl)]
    simp [putRowK, putRow, mapBlock, Sort.ahead, Array.getElem?_modify, hg']
theorem sort_fewH (f : Nat) (W : World) (ob n c : Nat) (p : Option Addr) (hn : n ≤ 1) (_ : ob ≤ W.heap.size) (x : Value) :
    Calls Tryz.prog 72 #[.iface 100 (.slice p n c), .func (.func f) #[] #[x]] W fun r W' => r = .returned (.tuple #[]) ∧ RowKit.Below W.heap.size W W' := by
  have hw : RowKit.Below W.heap.size W (sliceWorld Tryz.prog Tryz.laysGg6_ren 100 p n c W) := by
    unfold sliceWorld
    exact ((RowKit.Below.refl _ _).alloc (Nat.le_refl _) _).alloc (by simp) _
  have hcase : n = 0 ∨ n = 1 := by omega
  rcases hcase with rfl | rfl
  · exact Any.sort_Slice_of_pdq (P := Tryz.prog) Tryz.laysGg6 100 103 Tryz.hoT Tryz.hoE Tryz.hoTi (by kernel_rfl) (by kernel_rfl) Tryz.hoEi 25 kind_ho p 0 c (by omega) 169 (by kernel_rfl) _ _ _ W _ ((pdq_fewH _ _ 0 (by omega) _ _).mono fun e w' ⟨h1, h2⟩ => ⟨h1, hw.trans (h2.mono hw.size)⟩)
  · exact Any.sort_Slice_of_pdq (P := Tryz.prog) Tryz.laysGg6 100 103 Tryz.hoT Tryz.hoE Tryz.hoTi (by kernel_rfl) (by kernel_rfl) Tryz.hoEi 25 kind_ho p 1 c (by omega) 170 (by kernel_rfl) _ _ _ W _ ((pdq_fewH _ _ 1 (by omega) _ _).mono fun e w' ⟨h1, h2⟩ => ⟨h1, hw.trans (h2.mono hw.size)⟩)
/-- What sort.Slice does to holdings. -/
theorem sortsH {f : Nat} (ef : ∀ args w, (callFunc f args).run Tryz.prog w = .ok (.enter f args) w) (hle : LessH f) : SortsH f := by
  intro W ob ov out h hl
  have hlo : ob ≤ W.heap.size := Nat.le_of_lt h.box.lt
  have few : ∀ (p : Option Addr) (n c : Nat), ov = .slice p n c → n = out.length → n ≤ 1 → Calls Tryz.prog 72 #[.iface 100 ov, .func (.func f) #[] #[.pointer (some ⟨ob, 0, none⟩)]] W fun r W' => r = .returned (.tuple #[]) ∧ ∃ out' : List Hld, out'.Perm out ∧ (out'.Pairwise fun a b => a.item.data.toList ≤ b.item.data.toList) ∧ HoAt W' ob ov out' ∧ RowKit.Below ob W W' := fun p n c e1 e2 e3 => by
    subst e1
    refine (sort_fewH f W ob n c p e3 hlo _).mono ?_
    rintro r W' ⟨rfl, hb⟩
    refine ⟨rfl, out, List.Perm.refl _, ?_, h.below hb, hb.mono hlo⟩
    match out, e2 with
    | [], _ => exact List.Pairwise.nil
    | [_], _ => exact List.pairwise_singleton ..
    | _ :: _ :: _, e2 => simp at e2; omega
  rcases own_form h.row with ⟨hv, hn, _⟩ | ⟨g, cap, hv, _⟩
  · exact few _ _ _ hv hn.symm (by omega)
  · rcases Nat.lt_or_ge out.length 2 with h2 | h2
    · exact few _ _ _ hv rfl (by omega)
    · subst hv
      exact sort_manyH ef hle W ob g cap out h h2 hl
end Go.Proofs.YtcfgacdcgljbaaaGreatDoor
