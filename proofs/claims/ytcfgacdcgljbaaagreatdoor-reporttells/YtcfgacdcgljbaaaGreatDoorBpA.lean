/- The walk of (cost.Result).Sum; a look-up in its Layers. What a result's map tells of an item. The walk of (tallymanref.Result).Sum at a whole result; of tallymanlaw.sameLayers. -/
import Derived.Test.YtcfgacdcgljbaaaGreatDoorBnQ
import Derived.Test.YtcfgacdcgljbaaaGreatDoorBnT
import Derived.Laws.StructEq
namespace Go.Proofs.YtcfgacdcgljbaaaGreatDoor
open Go.RowKit Go.Maps
theorem zero_lays (w : World) : (zeroValue 194).run Tryz.prog w = .ok (.slice none 0 0) w := by kernel_rfl
/-- What a look-up in Layers gives. -/
theorem RunRes.look {B : Nat} {W : World} {mb n : Nat} {D : DataW Value} {V : ByteArray → Value} {M : Stks} {u : Value} {ls : List Lin} (h : RunRes B W mb n D V M u ls) (x : ByteArray) (hx : x.size ≤ maxLen) :
    ∃ v, (Instr.lookup 136 (.map (some mb)) (.string x) false).run Tryz.prog W = .ok v W ∧ LayAt W v (M x).ys := by
  obtain ⟨v, ps, h1, h2⟩ := h.map.lookup law_strT Tryz.underlying136 (zero_lays W) (zd := .held (.slice none 0 0)) (zp := []) rfl (key_str x hx)
  have h3 := heldE_inv h2
  refine ⟨v, h1, ?_⟩
  by_cases e : (M x).ys = []
  · rw [atKey_of_not_has (h.no x e)] at h3
    rw [← held_inj h3, e]
    exact LayAt.nil W
  · rw [h.yes x e] at h3
    rw [← held_inj h3]
    exact h.lay x
set_option maxHeartbeats 1000000 in
theorem Sum_any {B : Nat} {W : World} {rv : Value} {M : Stks} {ls : List Lin} {n : Nat} (h : ResAt B W rv M ls) (x : ByteArray) (hx : x.size ≤ maxLen) (ok : StkOK n (M x)) (hn : n ≤ 10000) :
    Calls Tryz.prog 85 #[rv, .string x] W fun e w' => e = .returned (.tuple #[.int .i64 (sumQ (M x).ys), .int .i64 (sumV (M x).ys)]) ∧ Below W.heap.size W w' := by
  obtain ⟨u, mb, k, D, V, rfl, _, _, hR⟩ := h
  obtain ⟨W0, hW0⟩ : ∃ w', w' = W.alloc (.cells #[u, .map (some mb)] 146) := ⟨_, rfl⟩
  have hB0 : Below W.heap.size W W0 := by rw [hW0]; exact (Below.refl _ _).alloc (Nat.le_refl _) _
  obtain ⟨v, h1, h2⟩ := (hR.below hB0).look x hx
  have hs := sum_any (M x).ys v W0 h2 ok.ok (by have := ok.q; omega) (by have := ok.v; omega) (by have := ok.len; omega)
  obtain ⟨ad, n', cp, hu⟩ := own_len' hR.own
  obtain ⟨ad2, n2, cp2, hv⟩ := h2.slice
  subst hu
  subst hv
  have HW0 : Hid (W0 = _) := hW0
  rw [hW0] at h1
  clear h2 hR hW0
  go_enter Tryz.func85, Tryz.ntmps85
  go_wp2_with fail
  rw [← HW0.out]
  refine hs.mono ?_
  rintro e w1 ⟨rfl, hb⟩
  go_wp2
  go_ret2
  exact ⟨rfl, hB0.trans (hb.mono hB0.size)⟩
end Go.Proofs.YtcfgacdcgljbaaaGreatDoor
namespace Go.Proofs.YtcfgacdcgljbaaaGreatDoor
open Go.Proofs.YtcfgacdcgljbaaaGreatDoor
open Go.RowKit Go.Shelf Go.Maps
theorem lookR {B : Nat} {W : World} {mb n : Nat} {D : DataW Value} {V : ByteArray → Value} {M : Stks} {u : Value} {ls : List Lin} (h : RunRes B W mb n D V M u ls) (x : ByteArray) (hx : x.size ≤ maxLen) :
    (Instr.lookup 136 (.map (some mb)) (.string x) false).run Tryz.prog W = .ok (if (M x).ys.isEmpty then .slice none 0 0 else V x) W := by
  obtain ⟨v, ps, h1, h2⟩ := h.map.lookup law_strT Tryz.underlying136 (zero_lays W) (zd := .held (.slice none 0 0)) (zp := []) rfl (key_str x hx)
  have h3 := heldE_inv h2
  by_cases e : (M x).ys = []
  · rw [atKey_of_not_has (h.no x e)] at h3
    rw [h1, ← held_inj h3, e]
    rfl
  · rw [h.yes x e] at h3
    rw [h1, ← held_inj h3, if_neg (by simpa using e)]
theorem lookRL {B : Nat} {W : World} {mb n : Nat} {D : DataW Value} {V : ByteArray → Value} {M : Stks} {u : Value} {ls : List Lin} (h : RunRes B W mb n D V M u ls) (x : ByteArray) : LayAt W (if (M x).ys.isEmpty then .slice none 0 0 else V x) (M x).ys := by
  by_cases e : (M x).ys = []
  · rw [if_pos (by simpa using e), e]; exact LayAt.nil W
  · rw [if_neg (by simpa using e)]; exact h.lay x
end Go.Proofs.YtcfgacdcgljbaaaGreatDoor
namespace Go.Proofs.YtcfgacdcgljbaaaGreatDoor
open Go.RowKit Go.Maps
set_option maxHeartbeats 2000000 in
theorem refSumV {x : ByteArray} {W : World} {mb : Nat} {lv : Value} {ys : List Lay} (hlk : ∀ W', Below W.heap.size W W' → (Instr.lookup 136 (.map (some mb)) (.string x) false).run Tryz.prog W' = .ok lv W') (hla : LayAt W lv ys) (u : Value) (hok : ∀ y ∈ ys, LayOK y) (hq : sumQ ys ≤ 1000000000) (hv : sumV ys ≤ 4000000000000000000) (hl : ys.length ≤ 1000000) (hu : ∃ ad n c, u = .slice ad n c) :
    Calls Tryz.prog 86 #[.agg #[u, .map (some mb)], .string x] W fun e w' => e = .returned (.tuple #[.int .i64 (sumQ ys), .int .i64 (sumV ys)]) ∧ Below W.heap.size W w' := by
  obtain ⟨ad, nu, cu, rfl⟩ := hu
  obtain ⟨W0, hW0⟩ : ∃ w', w' = W.alloc (.cells #[.slice ad nu cu, .map (some mb)] 138) := ⟨_, rfl⟩
  have hB0 : Below W.heap.size W W0 := by rw [hW0]; exact (Below.refl _ _).alloc (Nat.le_refl _) _
  have h1 := hlk W0 hB0
  have h2 := hla.below hB0
  obtain ⟨ad2, n2, cp2, hv2⟩ := h2.slice
  rw [hv2] at h1 h2
  have hn2 := h2.nilOf
  subst hn2
  have HW0 : Hid (W0 = _) := hW0
  rw [hW0] at h1
  clear hv2 hla hlk
  rcases h2.form with ⟨e, rfl⟩ | ⟨g, o, cap, e, hg, hc1, hc2⟩
  · simp only [Value.slice.injEq] at e
    obtain ⟨rfl, _, rfl⟩ := e
    have HB : Hid (Below W.heap.size W W0) := hB0
    clear h2 hB0 hW0
    simp only [List.length_nil] at h1
    go_enter Tryz.func86, Tryz.ntmps86
    go_wp2
    refine wp_loop_rounds 1 ?_
    rw [rounds_succ]
    go_wp2
    go_ret2
    exact ⟨rfl, by rw [← HW0.out]; exact HB.out⟩
  · simp only [Value.slice.injEq] at e
    obtain ⟨rfl, _, rfl⟩ := e
    clear hW0
    go_enter Tryz.func86, Tryz.ntmps86
    go_wp2_with fail
    rw [← HW0.out]
    clear h1
    go_loopw [4, 5, 13] (fun q s i wr => ∃ k : Nat, k ≤ ys.length ∧ i = .int .i64 k ∧ q = .int .i64 (sumQ (ys.take k)) ∧ s = .int .i64 (sumV (ys.take k)) ∧ Below W0.heap.size W0 wr) (fun _ _ i _ => ys.length - (intOf i).toNat)
    case atStart => exact ⟨0, Nat.zero_le _, rfl, rfl, rfl, Below.refl _ _⟩
    case round =>
      obtain ⟨k, hk, rfl, rfl, rfl, hb⟩ := hrel
      by_cases hlt : k < ys.length
      · have hc := fun j hj => ((h2.below hb).cell k j hlt hj).1
        have c0 := hc 0 (by omega)
        have c1 := hc 1 (by omega)
        have c2 := hc 2 (by omega)
        have st := sum_take hok k
        have st1 := sum_take hok (k + 1)
        have sn := sum_snoc ys k hlt
        have SN : Hid (sumQ (ys.take (k + 1)) = sumQ (ys.take k) + ys[k].qty ∧ sumV (ys.take (k + 1)) = sumV (ys.take k) + ys[k].val) := sn
        have ok := hok ys[k] (List.getElem_mem hlt)
        rw [sn.1, sn.2] at st1
        clear sn hc
        generalize ys[k] = y at c0 c1 c2 st1 SN ok
        obtain ⟨id, qty, val⟩ := y
        unfold LayOK at ok
        simp only [layC, List.getElem?_cons_zero, List.getElem?_cons_succ, Nat.add_zero] at c0 c1 c2 st1 SN ok
        go_wp2
        go_roundw
        case rel => exact ⟨k + 1, by omega, by go_num, by rw [SN.out.1], by rw [SN.out.2], hb.alloc hb.size _⟩
        case measure => simp [intOf]; omega
      · obtain rfl : k = ys.length := by omega
        have e : ys.take ys.length = ys := List.take_length
        go_wp2
        go_ret2
        exact ⟨by rw [e]; rfl, hB0.trans (hb.mono hB0.size)⟩
theorem refSumR {B : Nat} {W : World} {mb n : Nat} {D : DataW Value} {V : ByteArray → Value} {M : Stks} {u : Value} {ls : List Lin} {k : Nat} (h : RunRes B W mb n D V M u ls) (x : ByteArray) (hx : x.size ≤ maxLen) (ok : StkOK k (M x)) (hk : k ≤ 10000) :
    Calls Tryz.prog 86 #[.agg #[u, .map (some mb)], .string x] W fun e w' => e = .returned (.tuple #[.int .i64 (sumQ (M x).ys), .int .i64 (sumV (M x).ys)]) ∧ Below W.heap.size W w' :=
  refSumV (fun W' hb => lookR (h.below hb) x hx) (lookRL h x) u ok.ok (by have := ok.q; omega) (by have := ok.v; omega) (by have := ok.len; omega) (own_len' h.own)
theorem neq_layR (a b c : Int) (w : World) : (binOp BinOp.neq 204 (.agg #[.int .i64 a, .int .i64 b, .int .i64 c]) (.agg #[.int .i64 a, .int .i64 b, .int .i64 c])).run Tryz.prog w = .ok (.bool false) w := by
  have hS : Tryz.prog.underlying 204 = some (.struct (Tryz.prog.fieldsOf 204)) := by kernel_rfl
  have hp : Tryz.prog.stoodInHeld 204 = false := by kernel_rfl
  have u3 := Tryz.underlying3
  have a3 := Tryz.isAgg3
  have z3 := Tryz.sizeOf3
  rw [run_neq_struct, show (10000 : Nat) = 9999 + 1 from rfl, run_equalIn_agg w 9999 204 _ _ hS hp]
  simp only [Program.fieldsOf, Tryz.underlying204]
  go_simp
end Go.Proofs.YtcfgacdcgljbaaaGreatDoor
