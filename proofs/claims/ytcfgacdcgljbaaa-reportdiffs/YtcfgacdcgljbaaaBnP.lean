/- Maps of texts to pairs of numbers. The walk of ReportDiffs' 'add'. -/
import Derived.Test.YtcfgacdcgljbaaaKeysM
import Derived.Test.YtcfgacdcgljbaaaBnA
import Derived.Sort.MapsRangeIn
import Derived.Laws.StructEq
namespace Go.Proofs.Ytcfgacdcgljbaaa
open Go.RowKit Go.Maps
def prV (q v : Int) : Value := .agg #[.int .i64 q, .int .i64 v]
theorem zero_pr (w : World) : (zeroValue 30).run Try.prog w = .ok (prV 0 0) w := by kernel_rfl
theorem eq_pr (a b c d : Int) (w : World) : (Op.equalIn 10000 30 (.agg #[.int .i64 a, .int .i64 b]) (.agg #[.int .i64 c, .int .i64 d])).run Try.prog w = .ok (decide (a = c) && decide (b = d)) w := by
  have hz : (sizeOf 3).run Try.prog w = .ok 1 w := by kernel_rfl
  have p0 : ∀ x y : Int, (part 3 #[.int .i64 x, .int .i64 y] 0).run Try.prog w = .ok (.int .i64 x) w := fun x y => by kernel_rfl
  have p1 : ∀ x y : Int, (part 3 #[.int .i64 x, .int .i64 y] 1).run Try.prog w = .ok (.int .i64 y) w := fun x y => by kernel_rfl
  rw [show (10000 : Nat) = 9999 + 1 from rfl, Op.equalIn]
  simp only [Sem.run_bind, run_underlying Try.underlying30, Result.andThen_ok, hz]
  simp [Std.Legacy.Range.forIn_eq_forIn_range', List.range', p0, p1, run_equalIn_int _ _ _ _ _ _ _ Try.underlying3, Sem.run_bind]
  by_cases h1 : a = c <;> by_cases h2 : b = d <;> simp [h1, h2]
/-- A map of texts to pairs: which keys it has, and what it tells of each. -/
structure PMap (W : World) (mb n : Nat) (D : DataW Value) (q v : ByteArray → Int) (dom : ByteArray → Prop) : Prop where
  map : W.ownsMap Try.prog 9 heldE mb n D
  at_ : ∀ x, D.atKey (keyB x) (.held (prV 0 0)) = .held (prV (q x) (v x))
  has_ : ∀ x, has D (keyB x) = true ↔ dom x
section
variable {W w' : World} {mb n : Nat} {D : DataW Value} {q v : ByteArray → Int} {dom : ByteArray → Prop}
theorem PMap.same (h : PMap W mb n D q v dom) (e : w'.heap[mb]? = W.heap[mb]?) : PMap w' mb n D q v dom := ⟨map_same h.map e, h.at_, h.has_⟩
theorem PMap.below (h : PMap W mb n D q v dom) (hb : Below W.heap.size W w') : PMap w' mb n D q v dom := h.same (hb.block _ h.map.lt)
theorem PMap.lt (h : PMap W mb n D q v dom) : mb < W.heap.size := h.map.lt
theorem PMap.ext {q' v' : ByteArray → Int} {dom' : ByteArray → Prop} (h : PMap W mb n D q v dom) (hq : ∀ x, q x = q' x) (hv : ∀ x, v x = v' x) (hd : ∀ x, dom x ↔ dom' x) : PMap W mb n D q' v' dom' :=
  ⟨h.map, fun x => by rw [h.at_, hq, hv], fun x => by rw [h.has_, hd]⟩
theorem pmap_new (W : World) : PMap (W.alloc (.map #[] 0)) W.heap.size 0 (.map []) (fun _ => 0) (fun _ => 0) (fun _ => False) :=
  ⟨World.ownsMap_made W Try.prog 9 heldE, fun _ => rfl, fun x => by simp [has_eq]⟩
theorem PMap.look (h : PMap W mb n D q v dom) (x : ByteArray) (hx : x.size ≤ maxLen) : (Instr.lookup 29 (.map (some mb)) (.string x) false).run Try.prog W = .ok (prV (q x) (v x)) W := by
  obtain ⟨u, ps, h1, h2⟩ := h.map.lookup law_strT Try.underlying29 (zero_pr W) (zd := .held (prV 0 0)) (zp := []) rfl (key_str x hx)
  have h3 := heldE_inv h2
  rw [h.at_ x] at h3
  rw [h1, ← held_inj h3]
theorem PMap.put (h : PMap W mb n D q v dom) {x : ByteArray} {a b : Int} (hm : w'.ownsMap Try.prog 9 heldE mb (n + 1) (D.put (keyB x) (.held (prV a b)))) :
    PMap w' mb (n + 1) (D.put (keyB x) (.held (prV a b))) (fun z => if z = x then a else q z) (fun z => if z = x then b else v z) (fun z => z = x ∨ dom z) := by
  have isM : IsMap D := (h.map.canon law_strT).imp fun es ⟨e, _⟩ => e
  refine ⟨hm, fun z => ?_, fun z => ?_⟩
  · by_cases e : z = x
    · subst e; rw [if_pos rfl, if_pos rfl, atKey_put_same isM (keyB_key z)]
    · rw [if_neg e, if_neg e, atKey_put_other (fun c => e (keyB_inj c)), h.at_]
  · by_cases e : z = x
    · subst e; simp [has_put_same isM (keyB_key z)]
    · rw [has_put_other (fun c => e (keyB_inj c)), h.has_]; simp [e]
theorem PMap.del (h : PMap W mb n D q v dom) {x : ByteArray} (h0 : q x = 0 ∧ v x = 0) (hm : w'.ownsMap Try.prog 9 heldE mb n (D.del (keyB x))) : PMap w' mb n (D.del (keyB x)) q v (fun z => z ≠ x ∧ dom z) := by
  refine ⟨hm, fun z => ?_, fun z => ?_⟩
  · by_cases e : z = x
    · subst e; rw [atKey_del_same, h0.1, h0.2]
    · rw [atKey_del_other (fun c => e (keyB_inj c)), h.at_]
  · by_cases e : z = x
    · subst e; simp [has_del_same]
    · rw [has_del_other (fun c => e (keyB_inj c)), h.has_]; simp [e]
end
theorem keyP_inv {x : ByteArray} {kl : Lit} (h : keyOf Try.prog 9 (.string x) = some kl) : kl = keyB x ∧ x.size ≤ maxLen := by
  simp [keyOf, Try.underlying9, mapKey] at h
  exact ⟨h.2.symm, h.1⟩
theorem mapP_keys {w : World} {mb n : Nat} {D : DataW Value} (h : w.ownsMap Try.prog 9 heldE mb n D) {k : Lit} (hk : has D k = true) : ∃ x, k = keyB x := by
  obtain ⟨es, hD, hko⟩ := h.keysOf
  subst hD
  rw [has_eq, List.any_eq_true] at hk
  obtain ⟨p, hp, hpk⟩ := hk
  obtain ⟨v, hv⟩ := hko p hp
  obtain ⟨x, _, hx, _⟩ := Maps.keyOf_str Try.underlying9 hv
  exact ⟨baOf x, by rw [← WideAt.sameKey_eq hpk, hx]; rfl⟩
theorem sizeP_same {D1 D2 : DataW Value} (c1 : Canon D1) (c2 : Canon D2) (h : ∀ k, has D1 k = has D2 k) : Maps.size D1 = Maps.size D2 := by
  obtain ⟨e1, rfl, p1, k1⟩ := c1
  obtain ⟨e2, rfl, p2, k2⟩ := c2
  have mem : ∀ {es : List (Lit × DataW Value)}, (∀ p ∈ es, WideAt.IsKeyLit p.1) → ∀ k, k ∈ es.map (·.1) ↔ has (.map es) k = true := fun {es} hk k => by
    rw [has_eq, List.any_eq_true, List.mem_map]
    constructor
    · rintro ⟨p, hp, rfl⟩
      exact ⟨p, hp, WideAt.sameKey_self (hk p hp)⟩
    · rintro ⟨p, hp, e⟩
      exact ⟨p, hp, WideAt.sameKey_eq e⟩
  have nd : ∀ {es : List (Lit × DataW Value)}, es.Pairwise (fun p q => p.1.before q.1 = true) → (es.map (·.1)).Nodup := fun {es} hp => by
    rw [List.nodup_iff_pairwise_ne, List.pairwise_map]
    exact apart_of_rising hp
  have hp := (List.perm_ext_iff_of_nodup (nd p1) (nd p2)).2 fun k => by rw [mem k1, mem k2, h k]
  have := hp.length_eq
  simpa [size_eq] using this
theorem pmap_size {W1 W2 : World} {m1 m2 n1 n2 : Nat} {D1 D2 : DataW Value} {q1 v1 q2 v2 : ByteArray → Int} {dom : ByteArray → Prop} (h1 : PMap W1 m1 n1 D1 q1 v1 dom) (h2 : PMap W2 m2 n2 D2 q2 v2 dom) : Maps.size D1 = Maps.size D2 := by
  refine sizeP_same (h1.map.canon law_strT) (h2.map.canon law_strT) fun k => ?_
  have hx : ∀ x, has D1 (keyB x) = has D2 (keyB x) := fun x => by rw [Bool.eq_iff_iff, h1.has_, h2.has_]
  by_cases e1 : has D1 k = true
  · obtain ⟨x, rfl⟩ := mapP_keys h1.map e1
    exact hx x
  · by_cases e2 : has D2 k = true
    · obtain ⟨x, rfl⟩ := mapP_keys h2.map e2
      exact hx x
    · rw [Bool.not_eq_true] at e1 e2
      rw [e1, e2]
end Go.Proofs.Ytcfgacdcgljbaaa
namespace Go.Proofs.Ytcfgacdcgljbaaa
open Go.RowKit Go.Maps
/-- Keys are just those of which something is told. -/
def PM (W : World) (mb n : Nat) (D : DataW Value) (q v : ByteArray → Int) : Prop := PMap W mb n D q v (fun z => ¬ (q z = 0 ∧ v z = 0))
set_option maxRecDepth 20000 in
set_option maxHeartbeats 2000000 in
theorem add_any {w : World} {mb n : Nat} {D : DataW Value} {q v : ByteArray → Int} (h : PM w mb n D q v) (hn : n ≤ 1000000) (x : ByteArray) (hx : x.size ≤ maxLen) (a b : Int) (h1 : -1000000000000000 ≤ q x) (h2 : q x ≤ 1000000000000000) (h3 : -1000000000000000 ≤ v x) (h4 : v x ≤ 1000000000000000)
    (h5 : -1000000000000000 ≤ a) (h6 : a ≤ 1000000000000000) (h7 : -1000000000000000 ≤ b) (h8 : b ≤ 1000000000000000) :
    Calls Try.prog 9 #[.map (some mb), .string x, .int .i64 a, .int .i64 b] w fun r w' => r = .returned (.tuple #[]) ∧ (∃ n' D', n' ≤ n + 1 ∧ PM w' mb n' D' (fun z => if z = x then q x + a else q z) (fun z => if z = x then v x + b else v z)) ∧ w.grownBy w' (some mb) := by
  have heq := eq_pr
  have lk := h.look x hx
  unfold prV at lk
  obtain ⟨qx, hqx⟩ : ∃ k, k = q x := ⟨_, rfl⟩
  obtain ⟨vx, hvx⟩ : ∃ k, k = v x := ⟨_, rfl⟩
  have HQ := hidE hqx
  have HV := hidE hvx
  rw [← hqx] at lk h1 h2 ⊢
  rw [← hvx] at lk h3 h4 ⊢
  obtain ⟨W1, hW1⟩ : ∃ W, W = w.alloc (.cells #[.int .i64 qx, .int .i64 vx] 30) := ⟨_, rfl⟩
  have hb1 : Below w.heap.size w W1 := by rw [hW1]; exact (Below.refl _ _).alloc (Nat.le_refl _) _
  have HM1 : Hid (PM W1 mb n D q v) := PMap.below h hb1
  have HB1 := hidE hb1
  have HW1 := hidE hW1
  have hlt := h.lt
  clear hqx hvx hW1 hb1 h
  go_enter Try.func9, Try.ntmps9
  go_wp2_with (first
    | (at_mapUpdate; refine wpList_mapUpdate_own _ rfl _ _ _ 29 rfl 9 30 law_strT Try.underlying29 heldE mb n D rfl (by rw [← HW1.out]; exact HM1.out.map) (by unfold maxLen; omega) _ _ (keyB x) rfl rfl (key_str x hx) (.held (prV (qx + a) (vx + b))) [] rfl ?_)
    | go_in)
  intro w2 hm2 hg2
  rw [← HW1.out] at hg2
  have hp := HM1.out.put hm2
  have lk2 := hp.look x hx
  rw [if_pos rfl, if_pos rfl] at lk2
  unfold prV at lk2
  have HG : Hid (w.grownBy w2 (some mb)) := by
    refine ⟨hg2.os.trans HB1.out.os, hg2.tape.trans HB1.out.tape, hg2.output.trans HB1.out.output, Nat.le_trans HB1.out.size hg2.size, fun j hj hne => (hg2.block j (Nat.lt_of_lt_of_le hj HB1.out.size) hne).trans (HB1.out.block j hj)⟩
  have HP := hidE hp
  clear hp hm2 hg2 lk
  by_cases hz : qx + a = 0 ∧ vx + b = 0
  · rw [hz.1, hz.2] at lk2
    have HZ := hidE hz
    clear hz
    go_wp2_with (first
      | (at_delete; refine wpList_delete_own _ rfl _ _ 29 9 rfl 30 law_strT Try.underlying29 heldE mb (n + 1) _ rfl HP.out.map _ (keyB x) rfl (key_str x hx) ?_)
      | go_in)
    intro w3 hm3 ht3
    have hg3 := ht3.grown
    have HM3 : Hid (PM w3 mb (n + 1) _ (fun z => if z = x then qx + a else q z) (fun z => if z = x then vx + b else v z)) := (HP.out.del (by rw [if_pos rfl, if_pos rfl]; exact HZ.out) hm3).ext (fun _ => rfl) (fun _ => rfl) (fun z => by
      by_cases e : z = x
      · simp [e, HZ.out.1, HZ.out.2]
      · simp [e])
    have HG3 : Hid (w.grownBy w3 (some mb)) := by
      have g := HG.out
      exact ⟨hg3.os.trans g.os, hg3.tape.trans g.tape, hg3.output.trans g.output, Nat.le_trans g.size hg3.size, fun j hj hne => (hg3.block j (Nat.lt_of_lt_of_le hj g.size) hne).trans (g.block j hj hne)⟩
    clear hm3 ht3 hg3 lk2
    go_wp2
    go_end0
    exact ⟨rfl, ⟨_, _, Nat.le_refl _, HM3.out⟩, HG3.out⟩
  · have HM3 : Hid (PM w2 mb (n + 1) _ (fun z => if z = x then qx + a else q z) (fun z => if z = x then vx + b else v z)) := HP.out.ext (fun _ => rfl) (fun _ => rfl) (fun z => by
      by_cases e : z = x
      · simp only [e, if_pos, true_or, true_iff]; exact hz
      · simp [e])
    have hdec : (decide (qx + a = 0) && decide (vx + b = 0)) = false := by
      rw [Bool.eq_false_iff]
      intro c
      simp only [Bool.and_eq_true, decide_eq_true_eq] at c
      exact hz c
    have hlk3 := fun w => (heq (qx + a) (vx + b) 0 0 w)
    simp only [hdec] at hlk3
    clear heq hz
    go_wp2
    go_end0
    exact ⟨rfl, ⟨_, _, Nat.le_refl _, HM3.out⟩, HG.out⟩
end Go.Proofs.Ytcfgacdcgljbaaa
