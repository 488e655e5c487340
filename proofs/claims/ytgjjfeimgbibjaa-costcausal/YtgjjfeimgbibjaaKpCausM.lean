/- What comes later says nothing of what came before, and the order of the list says nothing; maps of the same keys: in plain mathematics; slices.Clone of a part. -/
import Derived.Test.YtgjjfeimgbibjaaKpLin
import Derived.Test.YtgjjfeimgbibjaaKpRev
namespace Go.Proofs.Ytgjjfeimgbibjaa
open Go.RowKit Go.Shelf Go.Maps
open Go.WideElems (Fit rg rd_key rg_of)
theorem map_keys {w : World} {mb n : Nat} {D : DataW Value} (h : w.ownsMap Try.prog 9 heldE mb n D) {k : Lit} (hk : has D k = true) : ∃ x, k = keyB x := by
  obtain ⟨es, clock, _, F, _, rfl⟩ := h
  rw [has_eq, List.any_eq_true] at hk
  obtain ⟨p, hp, hpk⟩ := hk
  obtain ⟨x, hx, rfl⟩ := List.mem_map.1 (mem_sorted.1 hp)
  obtain ⟨y, hy⟩ := F.reads x hx
  rw [rg_of hy] at hpk
  have hkey := rd_key hy
  obtain ⟨s, hs⟩ := Maps.keyOf_string_inv Try.underlying9 hkey
  rw [hs] at hkey
  obtain ⟨e, _⟩ := key_str_inv hkey
  exact ⟨s, by rw [← WideAt.sameKey_eq hpk]; exact e⟩
theorem size_same {D1 D2 : DataW Value} (c1 : Canon D1) (c2 : Canon D2) (h : ∀ k, has D1 k = has D2 k) : Maps.size D1 = Maps.size D2 := by
  obtain ⟨e1, rfl, p1, k1⟩ := c1
  obtain ⟨e2, rfl, p2, k2⟩ := c2
  have mem : ∀ {es : List (Lit × DataW Value)}, (∀ p ∈ es, WideAt.IsKeyLit p.1) → ∀ k, k ∈ es.map (·.1) ↔ has (.map es) k = true := fun {es} hk k => by
    rw [has_eq, List.any_eq_true, List.mem_map]
    constructor
    · rintro ⟨p, hp, rfl⟩
      exact ⟨p, hp, WideAt.sameKey_self (hk p hp)⟩
    · rintro ⟨p, hp, e⟩
      exact ⟨p, hp, WideAt.sameKey_eq e⟩
  have nd : ∀ {es : List (Lit × DataW Value)}, es.Pairwise (fun p q => p.1.before q.1 = true) → (es.map (·.1)).Nodup := fun {es} hp => by
    rw [List.nodup_iff_pairwise_ne, List.pairwise_map]
    exact apart_of_rising hp
  have hp := (List.perm_ext_iff_of_nodup (nd p1) (nd p2)).2 fun k => by rw [mem k1, mem k2, h k]
  have := hp.length_eq
  simpa [size_eq] using this
theorem res_size {B1 B2 : Nat} {W : World} {m1 m2 n1 n2 : Nat} {D1 D2 : DataW Value} {V1 V2 : ByteArray → Value} {M : Stks} {u1 u2 : Value} {l1 l2 : List Lin} (h1 : RunRes B1 W m1 n1 D1 V1 M u1 l1) (h2 : RunRes B2 W m2 n2 D2 V2 M u2 l2) : Maps.size D1 = Maps.size D2 := by
  have hk : ∀ {B : Nat} {m n : Nat} {D : DataW Value} {V : ByteArray → Value} {u : Value} {l : List Lin}, RunRes B W m n D V M u l → ∀ x, has D (keyB x) = !(M x).ys.isEmpty := fun {B m n D V u l} h x => by
    by_cases e : (M x).ys = []
    · rw [h.no x e, e]; rfl
    · rw [has_true_of_atKey (h.yes x e)]
      cases hy : (M x).ys with
      | nil => exact absurd hy e
      | cons _ _ => rfl
  refine size_same (h1.map.canon law_strT) (h2.map.canon law_strT) fun k => ?_
  by_cases e1 : has D1 k = true
  · obtain ⟨x, rfl⟩ := map_keys h1.map e1
    rw [hk h1, hk h2]
  · by_cases e2 : has D2 k = true
    · obtain ⟨x, rfl⟩ := map_keys h2.map e2
      rw [hk h1, hk h2]
    · rw [Bool.not_eq_true] at e1 e2
      rw [e1, e2]
theorem goL_take (M : Stks) (es : List Ev) (c : Nat) : goL M (es.take c) = (goL M es).take c := by
  induction es generalizing M c with
  | nil => simp [goL]
  | cons e es ih =>
    cases c with
    | zero => rfl
    | succ c => rw [List.take_succ_cons, goL, goL, List.take_succ_cons, ih]
theorem early_take (n : Int) : ∀ (es : List Ev), es.Pairwise (fun x y => ltOf cmpE y x = false) → ∃ c, c ≤ es.length ∧ (es.filter fun e => !decide (n < e.day)) = es.take c
  | [], _ => ⟨0, Nat.le_refl _, rfl⟩
  | e :: es, h => by
    rw [List.pairwise_cons] at h
    by_cases hd : n < e.day
    · refine ⟨0, Nat.zero_le _, ?_⟩
      rw [List.take_zero, List.filter_eq_nil_iff]
      intro y hy
      have : n < y.day := by
        rcases List.mem_cons.1 hy with rfl | hm
        · exact hd
        · have hl := h.1 y hm
          rw [Bool.eq_false_iff] at hl
          rw [Ne, lt_cmp] at hl
          omega
      simp [this]
    · obtain ⟨c, hc, he⟩ := early_take n es h.2
      refine ⟨c + 1, by simpa using hc, ?_⟩
      rw [List.filter_cons_of_pos (by simp [hd]), List.take_succ_cons, he]
/-- What came up to a day: the first lines. -/
theorem causal {L : List Ev} (n : Int) (hr : ∀ e ∈ L, Rt e) (hn : (L.map (·.id)).Nodup) : ∃ c, c ≤ L.length ∧ goL stk00 (ordd (L.filter fun e => !decide (n < e.day))) = (goL stk00 (ordd L)).take c := by
  have hrm : ∀ e ∈ L.filter (fun e => !decide (n < e.day)), Rt e := fun e he => hr e (List.mem_filter.1 he).1
  obtain ⟨c, hc, he⟩ := early_take n (stl L) (stl_sorted L)
  refine ⟨c, by rw [stl_len] at hc; exact hc, ?_⟩
  rw [ordd_stl hrm, ordd_stl hr, stl_filter hn, he, goL_take]
theorem same_order {L L' : List Ev} (hp : L'.Perm L) (hr : ∀ e ∈ L, Rt e) (hn : (L.map (·.id)).Nodup) : ordd L' = ordd L := by
  rw [ordd_stl hr, ordd_stl (fun e he => hr e (hp.mem_iff.1 he)), stl_same hp hn]
theorem LinsC.take {w : World} {ao : Option Addr} {l : List Lin} (h : LinsC w ao l) (c : Nat) : LinsC w ao (l.take c) := fun hp => by
  rw [List.length_take] at hp
  obtain ⟨b, off, e, hlt, hc⟩ := h (by omega)
  refine ⟨b, off, e, hlt, fun k hk j hj => ?_⟩
  rw [List.length_take] at hk
  rw [hc k (by omega) j hj, List.getElem_take]
set_option maxHeartbeats 1000000 in
theorem clone_part (l : List Ev) (g o cap : Nat) (w : World) (hcs : ∀ j u, (l.flatMap evC)[j]? = some u → w.cell? ⟨g, o + j, none⟩ = some u) (hl : l.length ≤ 1000) :
    Calls Try.prog 12 #[.slice (some ⟨g, o, none⟩) l.length cap] w fun r w' => ∃ v' : Value, r = .returned v' ∧ w'.ownsRow w.heap.size 30 7 v' l.length (l.flatMap evC) ∧ Below w.heap.size w w' := by
  obtain ⟨i0, hi, hz0, hz1, hz2⟩ := info_parts Try.infoEv
  have HCS : Hid (∀ j u, (l.flatMap evC)[j]? = some u → w.cell? ⟨g, o + j, none⟩ = some u) := hcs
  have hfl := flat_len evC 7 evC_len l
  clear hcs
  have hE : (w.alloc (.cells #[] 30)).ownsRow w.heap.size 30 7 (.slice (some ⟨w.heap.size, 0, none⟩) 0 0) 0 [] :=
    ⟨rfl, Or.inr ⟨w.heap.size, 0, #[], rfl, Nat.le_refl _, heap_alloc_new w _, Nat.le_refl _, Nat.zero_le _, rfl, rfl⟩⟩
  have HE : Hid _ := hE
  clear hE
  go_enter Try.func12, Try.ntmps12
  have hne := some_eq
  go_wp2_with (first
    | (at_builtin; refine wpList_append_own _ rfl _ _ 22 rfl w.heap.size 30 i0 evZ 7 64 Try.underlying22 hi hz0 hz1 hz2 rfl (by decide) _ _ _ rfl HE.out ⟨g, o, none⟩ l.length cap (l.flatMap evC) rfl (by rw [hfl]) ?d1 ?d2 ?d3 ?d4 ?d5 ?_)
    | go_in)
  case d1 =>
    intro j u hj
    have := HCS.out j u hj
    exact (((Below.refl w.heap.size w).alloc (Nat.le_refl _) _).cell (p := ⟨g, o + j, none⟩) (World.block_lt_of_cell? _ _ this)).trans this
  case d2 =>
    intro u e _ he
    exact evC_one e u he
  case d3 => unfold maxLen; omega
  case d4 => omega
  intro v' w3 hown3 hgr _
  have HB3 : Hid (Below w.heap.size w w3) := ((Below.refl w.heap.size w).alloc (Nat.le_refl _) _).grown hgr (by simp) (fun j hj => by simp [Value.ownBlock] at hj; omega)
  clear hgr
  go_wp2
  go_ret
  exact ⟨_, rfl, hown3, HB3.out⟩
end Go.Proofs.Ytgjjfeimgbibjaa
