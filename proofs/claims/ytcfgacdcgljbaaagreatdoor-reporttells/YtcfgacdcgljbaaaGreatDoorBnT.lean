/- What the document's own answer takes of layers, in plain mathematics. No walk. Layers of items as the document's own answer keeps them; the walk of (tallymanref.Result).Sum. -/
import Derived.Test.YtcfgacdcgljbaaaGreatDoorBnN
import Derived.Test.YtcfgacdcgljbaaaGreatDoorCoIdx
import Derived.Test.YtcfgacdcgljbaaaGreatDoorBnM
namespace Go.Proofs.YtcfgacdcgljbaaaGreatDoor
/-- So many of a layer are taken. -/
def few (n q : Int) : Int := if n < q then n else q
/-- One layer more. -/
def tkStep (r : List Lay × Int × Int) (y : Lay) : List Lay × Int × Int :=
  (if few r.2.2 y.qty < y.qty then r.1 ++ [⟨y.id, y.qty - few r.2.2 y.qty, y.val - y.val * few r.2.2 y.qty / y.qty⟩] else r.1, r.2.1 + y.val * few r.2.2 y.qty / y.qty, r.2.2 - few r.2.2 y.qty)
def tkR (r : List Lay × Int × Int) (ys : List Lay) : List Lay × Int × Int := ys.foldl tkStep r
theorem tkR_snoc (r : List Lay × Int × Int) (ys : List Lay) (k : Nat) (hk : k < ys.length) : tkR r (ys.take (k + 1)) = tkStep (tkR r (ys.take k)) ys[k] := by
  rw [List.take_succ_eq_append_getElem hk]
  unfold tkR
  rw [List.foldl_append]
  rfl
theorem tkR_is : ∀ (ys : List Lay) (a : List Lay) (v n : Int), (∀ y ∈ ys, LayOK y) → 0 ≤ n → tkR (a, v, n) ys = (a ++ (tk ys n).1, v + (tk ys n).2.1, (tk ys n).2.2)
  | [], a, v, n, _, _ => by simp [tkR, tk]
  | y :: ys, a, v, n, ok, hn => by
    have hy := ok y (List.mem_cons_self ..)
    unfold LayOK at hy
    have ih := fun a v n => tkR_is ys a v n (fun z hz => ok z (List.mem_cons_of_mem _ hz))
    show tkR (tkStep (a, v, n) y) ys = _
    by_cases h0 : n ≤ 0
    · have e : n = 0 := by omega
      subst e
      have hs : tkStep (a, v, 0) y = (a ++ [y], v, 0) := by
        unfold tkStep few
        rw [if_pos (by omega : (0 : Int) < y.qty), if_pos (by omega : (0 : Int) < y.qty)]
        simp
      rw [hs, ih _ _ _ (Int.le_refl _), tk_done ys 0 (Or.inl (Int.le_refl _)), tk_done (y :: ys) 0 (Or.inl (Int.le_refl _))]
      simp
    · by_cases hq : n < y.qty
      · have hs : tkStep (a, v, n) y = (a ++ [⟨y.id, y.qty - n, y.val - y.val * n / y.qty⟩], v + y.val * n / y.qty, 0) := by
          unfold tkStep few
          simp only [hq, if_true, Int.sub_self]
        rw [hs, ih _ _ _ (Int.le_refl _), tk_done ys 0 (Or.inl (Int.le_refl _)), tk_part y ys n (by omega) hq]
        simp
      · have hd : y.val * y.qty / y.qty = y.val := Int.mul_ediv_cancel _ (by omega)
        have hs : tkStep (a, v, n) y = (a, v + y.val, n - y.qty) := by
          unfold tkStep few
          simp only [hq, if_false, Int.lt_irrefl, hd]
        rw [hs, ih _ _ _ (by omega), tk_whole y ys n (by omega) hq]
        simp only [Int.add_assoc]
end Go.Proofs.YtcfgacdcgljbaaaGreatDoor
namespace Go.Proofs.YtcfgacdcgljbaaaGreatDoor
open Go.RowKit Go.Maps
structure RLay (B : Nat) (W : World) (mb n : Nat) (D : DataW Value) (V : ByteArray → Value) (M : ByteArray → List Lay) : Prop where
  map : W.ownsMap Tryz.prog 9 heldE mb n D
  at_ : ∀ x, D.atKey (keyB x) (.held (.slice none 0 0)) = .held (V x)
  lay : ∀ x, LayAt W (V x) (M x)
  ge : ∀ x k, (V x).ownBlock = some k → B ≤ k ∧ k ≠ mb
  ne : ∀ x y, x ≠ y → ∀ k, (V x).ownBlock = some k → (V y).ownBlock ≠ some k
theorem RLay.kept {B : Nat} {W W' : World} {mb n : Nat} {D : DataW Value} {V : ByteArray → Value} {M : ByteArray → List Lay} (h : RLay B W mb n D V M) (hm : W'.heap[mb]? = W.heap[mb]?) (hv : ∀ x k, (V x).ownBlock = some k → W'.heap[k]? = W.heap[k]?) : RLay B W' mb n D V M :=
  ⟨map_same h.map hm, h.at_, fun x => (h.lay x).kept (hv x), h.ge, h.ne⟩
theorem RLay.below {B : Nat} {W W' : World} {mb n : Nat} {D : DataW Value} {V : ByteArray → Value} {M : ByteArray → List Lay} (h : RLay B W mb n D V M) (hb : Below W.heap.size W W') : RLay B W' mb n D V M :=
  h.kept (hb.block _ h.map.lt) fun x k hk => hb.block k ((h.lay x).lt hk)
theorem zero_layR (w : World) : (zeroValue 194).run Tryz.prog w = .ok (.slice none 0 0) w := by kernel_rfl
theorem RLay.look {B : Nat} {W : World} {mb n : Nat} {D : DataW Value} {V : ByteArray → Value} {M : ByteArray → List Lay} (h : RLay B W mb n D V M) (x : ByteArray) (hx : x.size ≤ maxLen) :
    (Instr.lookup 136 (.map (some mb)) (.string x) false).run Tryz.prog W = .ok (V x) W := by
  obtain ⟨v, ps, h1, h2⟩ := h.map.lookup law_strT Tryz.underlying136 (zero_layR W) (zd := .held (.slice none 0 0)) (zp := []) rfl (key_str x hx)
  have h3 := heldE_inv h2
  rw [h.at_ x] at h3
  rw [h1, ← held_inj h3]
set_option maxHeartbeats 2000000 in
theorem refSum_any {B : Nat} {W : World} {mb n : Nat} {D : DataW Value} {V : ByteArray → Value} {M : ByteArray → List Lay} (h : RLay B W mb n D V M) (u : Value) (x : ByteArray) (hx : x.size ≤ maxLen) (hok : ∀ y ∈ M x, LayOK y) (hq : sumQ (M x) ≤ 1000000000) (hv : sumV (M x) ≤ 4000000000000000000) (hl : (M x).length ≤ 1000000) (hu : ∃ ad n c, u = .slice ad n c) :
    Calls Tryz.prog 86 #[.agg #[u, .map (some mb)], .string x] W fun e w' => e = .returned (.tuple #[.int .i64 (sumQ (M x)), .int .i64 (sumV (M x))]) ∧ Below W.heap.size W w' := by
  obtain ⟨ad, nu, cu, rfl⟩ := hu
  obtain ⟨W0, hW0⟩ : ∃ w', w' = W.alloc (.cells #[.slice ad nu cu, .map (some mb)] 138) := ⟨_, rfl⟩
  have hB0 : Below W.heap.size W W0 := by rw [hW0]; exact (Below.refl _ _).alloc (Nat.le_refl _) _
  have h1 := (h.below hB0).look x hx
  have h2 := (h.below hB0).lay x
  obtain ⟨ys, hys⟩ : ∃ ys, ys = M x := ⟨_, rfl⟩
  rw [← hys] at h2 hok hq hv hl
  rw [← hys]
  obtain ⟨ad2, n2, cp2, hv2⟩ := h2.slice
  rw [hv2] at h1 h2
  have hn2 := h2.nilOf
  subst hn2
  have HW0 : Hid (W0 = _) := hW0
  rw [hW0] at h1
  clear hys hv2 h
  rcases h2.form with ⟨e, rfl⟩ | ⟨g, o, cap, e, hg, hc1, hc2⟩
  · simp only [Value.slice.injEq] at e
    obtain ⟨rfl, _, rfl⟩ := e
    have HB : Hid (Below W.heap.size W W0) := hB0
    clear h2 hB0 hW0
    simp only [List.length_nil] at h1
    go_enter Tryz.func86, Tryz.ntmps86
    go_wp2
    refine wp_loop_rounds 1 ?_
    rw [rounds_succ]
    go_wp2
    go_ret2
    exact ⟨rfl, by rw [← HW0.out]; exact HB.out⟩
  · simp only [Value.slice.injEq] at e
    obtain ⟨rfl, _, rfl⟩ := e
    clear hW0
    go_enter Tryz.func86, Tryz.ntmps86
    go_wp2_with fail
    rw [← HW0.out]
    clear h1
    go_loopw [4, 5, 13] (fun q s i wr => ∃ k : Nat, k ≤ ys.length ∧ i = .int .i64 k ∧ q = .int .i64 (sumQ (ys.take k)) ∧ s = .int .i64 (sumV (ys.take k)) ∧ Below W0.heap.size W0 wr) (fun _ _ i _ => ys.length - (intOf i).toNat)
    case atStart => exact ⟨0, Nat.zero_le _, rfl, rfl, rfl, Below.refl _ _⟩
    case round =>
      obtain ⟨k, hk, rfl, rfl, rfl, hb⟩ := hrel
      by_cases hlt : k < ys.length
      · have hc := fun j hj => ((h2.below hb).cell k j hlt hj).1
        have c0 := hc 0 (by omega)
        have c1 := hc 1 (by omega)
        have c2 := hc 2 (by omega)
        have st := sum_take hok k
        have st1 := sum_take hok (k + 1)
        have sn := sum_snoc ys k hlt
        have SN : Hid (sumQ (ys.take (k + 1)) = sumQ (ys.take k) + ys[k].qty ∧ sumV (ys.take (k + 1)) = sumV (ys.take k) + ys[k].val) := sn
        have ok := hok ys[k] (List.getElem_mem hlt)
        rw [sn.1, sn.2] at st1
        clear sn hc
        generalize ys[k] = y at c0 c1 c2 st1 SN ok
        obtain ⟨id, qty, val⟩ := y
        unfold LayOK at ok
        simp only [layC, List.getElem?_cons_zero, List.getElem?_cons_succ, Nat.add_zero] at c0 c1 c2 st1 SN ok
        go_wp2
        go_roundw
        case rel => exact ⟨k + 1, by omega, by go_num, by rw [SN.out.1], by rw [SN.out.2], hb.alloc hb.size _⟩
        case measure => simp [intOf]; omega
      · obtain rfl : k = ys.length := by omega
        have e : ys.take ys.length = ys := List.take_length
        go_wp2
        go_ret2
        exact ⟨by rw [e]; rfl, hB0.trans (hb.mono hB0.size)⟩
end Go.Proofs.YtcfgacdcgljbaaaGreatDoor
