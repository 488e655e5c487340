/- The walks of the functions that tallymankeep.CostApart hands on. -/
import Derived.Test.YtgjjfeimgbibjaaKpLin
import Derived.Test.YtgjjfeimgbibjaaKpApartM
namespace Go.Proofs.Ytgjjfeimgbibjaa.costApart
open Go.Proofs.Ytgjjfeimgbibjaa
open Go.RowKit Go.Shelf Go.Maps
set_option maxHeartbeats 1000000 in
theorem ap1_any (e : Ev) (x : ByteArray) (ab ib gs n cs k : Nat) (W : World) (h0 : W.cell? ⟨ab, 0, none⟩ = some (.slice (some ⟨gs, 0, none⟩) n cs)) (h1 : W.cell? ⟨ib, 0, none⟩ = some (.int .i64 k)) (h2 : W.cell? ⟨gs, k, none⟩ = some (.string x)) (hk : k < n) :
    Calls Try.prog 22 (#[evV e] ++ #[.pointer (some ⟨ab, 0, none⟩), .pointer (some ⟨ib, 0, none⟩)]) W fun r w' => r = .returned (.bool (!decide (e.item = x))) ∧ Below W.heap.size W w' := by
  obtain ⟨id, item, kind, qty, price, ofI, day⟩ := e
  unfold evV
  simp only
  have l0 := World.block_lt_of_cell? _ _ h0
  have l1 := World.block_lt_of_cell? _ _ h1
  have l2 := World.block_lt_of_cell? _ _ h2
  have b := fun o : Obj => (Below.refl W.heap.size W).alloc (Nat.le_refl _) o
  have c0 := fun o : Obj => ((b o).cell (p := ⟨ab, 0, none⟩) l0).trans h0
  have c1 := fun o : Obj => ((b o).cell (p := ⟨ib, 0, none⟩) l1).trans h1
  have c2 := fun o : Obj => ((b o).cell (p := ⟨gs, k, none⟩) l2).trans h2
  have d1 : ∀ (o : Obj) (m : Nat), ((W.alloc o).drewN m).cell? ⟨ab, 0, none⟩ = some (.slice (some ⟨gs, 0, none⟩) n cs) := fun o m => c0 o
  have d2 : ∀ (o : Obj) (m : Nat), ((W.alloc o).drewN m).cell? ⟨ib, 0, none⟩ = some (.int .i64 k) := fun o m => c1 o
  have d3 : ∀ (o : Obj) (m : Nat), ((W.alloc o).drewN m).cell? ⟨gs, k, none⟩ = some (.string x) := fun o m => c2 o
  have HB : Hid _ := b
  have mixed := csP.mixed
  have hkz : (k : Int) < (n : Int) := by omega
  clear b h0 h1 h2
  by_cases hd : item = x
  · subst hd
    go_enter Try.func22, Try.ntmps22
    go_wp2_with fail
    go_quiet (fail)
    go_wp2
    go_ret
    exact ⟨by simp, (HB.out _).trans ⟨rfl, rfl, rfl, Nat.le_refl _, fun _ _ => rfl⟩⟩
  · have hd2 := txt_ne hd
    go_enter Try.func22, Try.ntmps22
    go_wp2_with fail
    go_quiet (fail)
    go_wp2
    go_ret
    exact ⟨by simp [hd], (HB.out _).trans ⟨rfl, rfl, rfl, Nat.le_refl _, fun _ _ => rfl⟩⟩
set_option maxHeartbeats 1000000 in
theorem ap21_any (e : Ev) (yi : Int) (yb : Nat) (W : World) (h0 : W.cell? ⟨yb, 0, none⟩ = some (.int .i64 yi)) :
    Calls Try.prog 27 (#[evV e] ++ #[.pointer (some ⟨yb, 0, none⟩)]) W fun r w' => r = .returned (.bool (decide (e.id = yi))) ∧ Below W.heap.size W w' := by
  obtain ⟨id, item, kind, qty, price, ofI, day⟩ := e
  unfold evV
  simp only
  have l0 := World.block_lt_of_cell? _ _ h0
  have b := fun o : Obj => (Below.refl W.heap.size W).alloc (Nat.le_refl _) o
  have c0 := fun o : Obj => ((b o).cell (p := ⟨yb, 0, none⟩) l0).trans h0
  have HB : Hid _ := b
  clear b h0
  by_cases hd : id = yi
  · subst hd
    go_enter Try.func27, Try.ntmps27
    go_wp2
    go_ret
    exact ⟨by simp, HB.out _⟩
  · go_enter Try.func27, Try.ntmps27
    go_wp2
    go_ret
    exact ⟨by simp [hd], HB.out _⟩
set_option maxHeartbeats 1000000 in
theorem ap2_any (y : Lin) (m : List Ev) (am : Option Addr) (cm mb : Nat) (W : World) (h0 : W.cell? ⟨mb, 0, none⟩ = some (.slice am m.length cm)) (hc : EvsC W am m) (hl : m.length ≤ 1000) :
    Calls Try.prog 25 (#[linV y] ++ #[.pointer (some ⟨mb, 0, none⟩)]) W fun r w' => r = .returned (.bool (!m.any fun e => decide (e.id = y.id))) ∧ Below W.heap.size W w' := by
  obtain ⟨id, val, short, late, gain⟩ := y
  unfold linV
  simp only
  have l0 := World.block_lt_of_cell? _ _ h0
  obtain ⟨W1, hW1⟩ : ∃ X, X = W.alloc (.cells #[.int .i64 id, .int .i64 val, .int .i64 short, .int .i64 late, .bool gain] 45) := ⟨_, rfl⟩
  have b1 : Below W.heap.size W W1 := by rw [hW1]; exact (Below.refl _ _).alloc (Nat.le_refl _) _
  have y0 : W1.cell? ⟨W.heap.size, 0, none⟩ = some (.int .i64 id) := by rw [hW1]; simp
  have c0 := fun o : Obj => (((Below.refl W.heap.size W).alloc (Nat.le_refl _) o).cell (p := ⟨mb, 0, none⟩) l0).trans h0
  have hs1 : W.heap.size < W1.heap.size := by rw [hW1]; simp
  have hcont := cont_ev m am cm W1 (hc.below b1) (by omega) 27 #[.pointer (some ⟨W.heap.size, 0, none⟩)] (fun e => decide (e.id = id)) (enters_of Try.func27 (by kernel_rfl) rfl)
    (fun e W' hb => ap21_any e id W.heap.size W' ((hb.cell (p := ⟨W.heap.size, 0, none⟩) hs1).trans y0))
  have HW1 : Hid (W1 = _) := hW1
  generalize hB : (m.any fun e => decide (e.id = id)) = B at hcont
  clear hW1 hc h0 hB
  go_enter Try.func25, Try.ntmps25
  go_wp2_with fail
  rw [← HW1.out]
  refine hcont.mono ?_
  rintro r w2 ⟨rfl, hb2⟩
  have HB2 : Hid (Below W.heap.size W w2) := b1.trans (hb2.mono b1.size)
  clear hcont
  go_wp2
  go_ret
  exact ⟨rfl, HB2.out⟩
def boxN (p : Value) (w : World) : Nat := match p with
  | .pointer (some a) => ((w.cell? a).map fun v => (intOf v).toNat).getD 0
  | _ => 0
theorem boxN_eq {a : Addr} {w : World} {k : Nat} (h : w.cell? a = some (.int .i64 k)) : boxN (.pointer (some a)) w = k := by
  simp [boxN, h, intOf]
theorem lookV {B : Nat} {W : World} {mb n : Nat} {D : DataW Value} {V : ByteArray → Value} {M : Stks} {u : Value} {ls : List Lin} (h : RunRes B W mb n D V M u ls) (x : ByteArray) (hx : x.size ≤ maxLen) :
    (Instr.lookup 33 (.map (some mb)) (.string x) false).run Try.prog W = .ok (if (M x).ys.isEmpty then .slice none 0 0 else V x) W := by
  obtain ⟨v, ps, h1, h2⟩ := h.map.lookup law_strT Try.underlying33 (zero_lays W) (zd := .held (.slice none 0 0)) (zp := []) rfl (key_str x hx)
  have h3 := heldE_inv h2
  by_cases e : (M x).ys = []
  · rw [atKey_of_not_has (h.no x e)] at h3
    rw [h1, ← held_inj h3, e]
    rfl
  · rw [h.yes x e] at h3
    rw [h1, ← held_inj h3, if_neg (by simpa using e)]
theorem lookL {B : Nat} {W : World} {mb n : Nat} {D : DataW Value} {V : ByteArray → Value} {M : Stks} {u : Value} {ls : List Lin} (h : RunRes B W mb n D V M u ls) (x : ByteArray) : LayAt W (if (M x).ys.isEmpty then .slice none 0 0 else V x) (M x).ys := by
  by_cases e : (M x).ys = []
  · rw [if_pos (by simpa using e), e]; exact LayAt.nil W
  · rw [if_neg (by simpa using e)]; exact h.lay x
end Go.Proofs.Ytgjjfeimgbibjaa.costApart
