/- Maps of texts to changes. What report.Diff tells. -/
import Derived.Test.YtcfgacdcgljbaaaGreatKeysM
import Derived.Test.YtcfgacdcgljbaaaGreatReAt
namespace Go.Proofs.YtcfgacdcgljbaaaGreat
open Go.RowKit Go.Maps
/-- A change: an item, how many more, of how much more value. -/
structure Chg where
  item : ByteArray
  q : Int
  v : Int
def chg0 : Chg := ⟨⟨#[]⟩, 0, 0⟩
def chgV (c : Chg) : Value := .agg #[.string c.item, .int .i64 c.q, .int .i64 c.v]
theorem zero_chg (w : World) : (zeroValue 85).run Tryz.prog w = .ok (chgV chg0) w := by kernel_rfl
/-- A map of texts to changes: which keys it has, and what it tells of each. -/
structure CMap (W : World) (mb n : Nat) (D : DataW Value) (f : ByteArray → Chg) (dom : ByteArray → Prop) : Prop where
  map : W.ownsMap Tryz.prog 9 heldE mb n D
  at_ : ∀ x, D.atKey (keyB x) (.held (chgV chg0)) = .held (chgV (f x))
  has_ : ∀ x, has D (keyB x) = true ↔ dom x
section
variable {W w' : World} {mb n : Nat} {D : DataW Value} {f : ByteArray → Chg} {dom : ByteArray → Prop}
theorem CMap.same (h : CMap W mb n D f dom) (e : w'.heap[mb]? = W.heap[mb]?) : CMap w' mb n D f dom := ⟨map_same h.map e, h.at_, h.has_⟩
theorem CMap.below (h : CMap W mb n D f dom) (hb : Below W.heap.size W w') : CMap w' mb n D f dom := h.same (hb.block _ h.map.lt)
theorem CMap.lt (h : CMap W mb n D f dom) : mb < W.heap.size := h.map.lt
theorem cmap_new (W : World) : CMap (W.alloc (.map #[] 0)) W.heap.size 0 (.map []) (fun _ => chg0) (fun _ => False) :=
  ⟨World.ownsMap_made W Tryz.prog 9 heldE, fun _ => rfl, fun x => by simp [has_eq]⟩
theorem CMap.look (h : CMap W mb n D f dom) (x : ByteArray) (hx : x.size ≤ maxLen) : (Instr.lookup 84 (.map (some mb)) (.string x) false).run Tryz.prog W = .ok (chgV (f x)) W := by
  obtain ⟨v, ps, h1, h2⟩ := h.map.lookup law_strT Tryz.underlying84 (zero_chg W) (zd := .held (chgV chg0)) (zp := []) rfl (key_str x hx)
  have h3 := heldE_inv h2
  rw [h.at_ x] at h3
  rw [h1, ← held_inj h3]
theorem CMap.put (h : CMap W mb n D f dom) {x : ByteArray} {k : Chg} (hm : w'.ownsMap Tryz.prog 9 heldE mb (n + 1) (D.put (keyB x) (.held (chgV k)))) :
    CMap w' mb (n + 1) (D.put (keyB x) (.held (chgV k))) (fun z => if z = x then k else f z) (fun z => z = x ∨ dom z) := by
  have isM : IsMap D := (h.map.canon law_strT).imp fun es ⟨e, _⟩ => e
  refine ⟨hm, fun z => ?_, fun z => ?_⟩
  · by_cases e : z = x
    · subst e; rw [if_pos rfl, atKey_put_same isM (keyB_key z)]
    · rw [if_neg e, atKey_put_other (fun c => e (keyB_inj c)), h.at_]
  · by_cases e : z = x
    · subst e; simp [has_put_same isM (keyB_key z)]
    · rw [has_put_other (fun c => e (keyB_inj c)), h.has_]; simp [e]
end
end Go.Proofs.YtcfgacdcgljbaaaGreat
namespace Go.Proofs.YtcfgacdcgljbaaaGreat
open Go.RowKit Go.Maps Go.Shelf
/-- All blocks of an older world but one are as they were. -/
structure SameBut (mb : Nat) (w w' : World) : Prop where
  size : w.heap.size ≤ w'.heap.size
  same : ∀ j, j < w.heap.size → j ≠ mb → w'.heap[j]? = w.heap[j]?
theorem SameBut.refl (mb : Nat) (w : World) : SameBut mb w w := ⟨Nat.le_refl _, fun _ _ _ => rfl⟩
theorem SameBut.cell {mb : Nat} {w w' : World} (h : SameBut mb w w') {p : Addr} (hp : p.block < w.heap.size) (hn : p.block ≠ mb) : w'.cell? p = w.cell? p := World.cell?_of_block (h.same _ hp hn)
theorem SameBut.below {mb : Nat} {w w' w2 : World} (h : SameBut mb w w') (hb : Below w'.heap.size w' w2) : SameBut mb w w2 :=
  ⟨Nat.le_trans h.size hb.size, fun j hj hn => (hb.block j (Nat.lt_of_lt_of_le hj h.size)).trans (h.same j hj hn)⟩
theorem SameBut.grown {mb : Nat} {w w' w2 : World} (h : SameBut mb w w') (hg : w'.grownBy w2 (some mb)) : SameBut mb w w2 :=
  ⟨Nat.le_trans h.size hg.size, fun j hj hn => (hg.block j (Nat.lt_of_lt_of_le hj h.size) (fun e => hn (by cases e; rfl))).trans (h.same j hj hn)⟩
theorem evUp_len (b : Bk) (n t : Int) : (evUp b n t).length ≤ b.vs.length := by
  have h1 := List.length_filter_le (fun e : Ev => !decide (n < e.day)) (srt (asOf b (tOf b t)))
  rw [srt_len] at h1
  unfold asOf at h1
  rw [List.length_map] at h1
  have h2 := List.length_filter_le (isAt (tOf b t)) b.vs
  unfold evUp asOf
  omega
open Classical in
/-- What is told of an item once those of a list are. -/
noncomputable def chgAt (S : List ByteArray) (M : Stks) (z : ByteArray) : Chg := if z ∈ S then ⟨z, sumQ (M z).ys, sumV (M z).ys⟩ else chg0
theorem chgAt_nil (M : Stks) (z : ByteArray) : chgAt [] M z = chg0 := by unfold chgAt; rw [if_neg (by simp)]
theorem chgAt_snoc (S : List ByteArray) (M : Stks) (x z : ByteArray) : chgAt (S ++ [x]) M z = if z = x then ⟨x, sumQ (M x).ys, sumV (M x).ys⟩ else chgAt S M z := by
  unfold chgAt
  by_cases e : z = x
  · subst e; rw [if_pos (by simp), if_pos rfl]
  · rw [if_neg e]
    by_cases e2 : z ∈ S
    · rw [if_pos (by simp [e2]), if_pos e2]
    · rw [if_neg (by simp [e, e2]), if_neg e2]
theorem CMap.ext {W : World} {mb n : Nat} {D : DataW Value} {f g : ByteArray → Chg} {dom dom' : ByteArray → Prop} (h : CMap W mb n D f dom) (hf : ∀ x, f x = g x) (hd : ∀ x, dom x ↔ dom' x) : CMap W mb n D g dom' :=
  ⟨h.map, fun x => by rw [h.at_, hf], fun x => by rw [h.has_, hd]⟩
open Classical in
/-- What is told of an item once those of a list are taken off. -/
noncomputable def chgSub (S : List ByteArray) (N : Stks) (f : ByteArray → Chg) (z : ByteArray) : Chg := if z ∈ S then ⟨z, wrap64 ((f z).q - sumQ (N z).ys), wrap64 ((f z).v - sumV (N z).ys)⟩ else f z
theorem chgSub_nil (N : Stks) (f : ByteArray → Chg) (z : ByteArray) : chgSub [] N f z = f z := by unfold chgSub; rw [if_neg (by simp)]
theorem chgSub_not {S : List ByteArray} {N : Stks} {f : ByteArray → Chg} {z : ByteArray} (h : z ∉ S) : chgSub S N f z = f z := by unfold chgSub; rw [if_neg h]
theorem chgSub_snoc {S : List ByteArray} (N : Stks) (f : ByteArray → Chg) {x : ByteArray} (hx : x ∉ S) (z : ByteArray) : chgSub (S ++ [x]) N f z = if z = x then ⟨x, wrap64 ((chgSub S N f x).q - sumQ (N x).ys), wrap64 ((chgSub S N f x).v - sumV (N x).ys)⟩ else chgSub S N f z := by
  rw [chgSub_not hx]
  unfold chgSub
  by_cases e : z = x
  · subst e; rw [if_pos (by simp), if_pos rfl]
  · rw [if_neg e]
    by_cases e2 : z ∈ S
    · rw [if_pos (by simp [e2]), if_pos e2]
    · rw [if_neg (by simp [e, e2]), if_neg e2]
/-- Stocks at a day's end as they were known behind a turn. -/
noncomputable def stUp (b : Bk) (n t : Int) : Stks := goS stk00 (ordd (evUp b n t))
theorem stUp_ok (b : Bk) (n t : Int) (hl : b.vs.length ≤ 1000) (x : ByteArray) : StkOK 1000 (stUp b n t x) := by
  have h1 := (goS_ok (ordd (evUp b n t)) 0 stk00 (fun y => stk0_ok 0) (ordd_rt _)).1 x
  exact h1.more (by have := ordd_len (evUp b n t); have := evUp_len b n t; omega)
theorem sumQ_nn : ∀ (ys : List Lay), (∀ y ∈ ys, LayOK y) → 0 ≤ sumQ ys ∧ 0 ≤ sumV ys ∧ (ys ≠ [] → 1 ≤ sumQ ys)
  | [], _ => by simp [sumQ, sumV]
  | y :: ys, h => by
    have h1 := h y (List.mem_cons_self ..)
    have h2 := sumQ_nn ys (fun z hz => h z (List.mem_cons_of_mem _ hz))
    unfold LayOK at h1
    simp only [sumQ, sumV]
    omega
theorem st_bd {s : Stk} (h : StkOK 1000 s) : 0 ≤ sumQ s.ys ∧ sumQ s.ys ≤ 100000000 ∧ 0 ≤ sumV s.ys ∧ sumV s.ys ≤ 100000000000000 ∧ (s.ys ≠ [] → 1 ≤ sumQ s.ys) := by
  have h1 := sumQ_nn s.ys h.ok
  have h2 := h.q
  have h3 := h.v
  exact ⟨h1.1, by omega, h1.2.1, by omega, h1.2.2⟩
theorem st_zero {s : Stk} (h : s.ys = []) : sumQ s.ys = 0 ∧ sumV s.ys = 0 := by rw [h]; exact ⟨rfl, rfl⟩
/-- What is known otherwise of an item. -/
def dfQ (M N : Stks) (x : ByteArray) : Int := sumQ (M x).ys - sumQ (N x).ys
def dfV (M N : Stks) (x : ByteArray) : Int := sumV (M x).ys - sumV (N x).ys
def dfC (M N : Stks) (x : ByteArray) : List Value := [.string x, .int .i64 (dfQ M N x), .int .i64 (dfV M N x)]
def dfN (M N : Stks) (x : ByteArray) : Bool := !(decide (dfQ M N x = 0) && decide (dfV M N x = 0))
theorem dfN_iff (M N : Stks) (x : ByteArray) : dfN M N x = true ↔ (dfQ M N x ≠ 0 ∨ dfV M N x ≠ 0) := by
  unfold dfN
  by_cases h1 : dfQ M N x = 0 <;> by_cases h2 : dfV M N x = 0 <;> simp [h1, h2]
theorem w64 {x : Int} (h : -1000000000000000 ≤ x) (h' : x ≤ 1000000000000000) : wrap64 x = x := IntWalk.wrap64_in _ ⟨by omega, by omega⟩
theorem chg_is {M N : Stks} {ks js : List ByteArray} (hM : ∀ x, StkOK 1000 (M x)) (hN : ∀ x, StkOK 1000 (N x)) (hk : Keys (fun x => (M x).ys ≠ []) ks) (hj : Keys (fun x => (N x).ys ≠ []) js) {z : ByteArray} (hz : z ∈ js ∨ z ∈ ks) :
    chgSub js N (chgAt ks M) z = ⟨z, dfQ M N z, dfV M N z⟩ := by
  have m1 := st_bd (hM z)
  have n1 := st_bd (hN z)
  unfold dfQ dfV
  by_cases zj : z ∈ js
  · unfold chgSub
    rw [if_pos zj]
    by_cases zk : z ∈ ks
    · unfold chgAt
      rw [if_pos zk]
      simp only
      rw [w64 (by omega) (by omega), w64 (by omega) (by omega)]
    · have hz0 := st_zero (s := M z) (Classical.byContradiction fun c => zk ((hk.mem z).2 c))
      unfold chgAt
      rw [if_neg zk]
      simp only [chg0]
      rw [w64 (by omega) (by omega), w64 (by omega) (by omega), hz0.1, hz0.2]
  · have zk : z ∈ ks := hz.resolve_left zj
    have hz0 := st_zero (s := N z) (Classical.byContradiction fun c => zj ((hj.mem z).2 c))
    rw [chgSub_not zj]
    unfold chgAt
    rw [if_pos zk, hz0.1, hz0.2, Int.sub_zero, Int.sub_zero]
theorem df_keys {M N : Stks} {ks js ms : List ByteArray} (hk : Keys (fun x => (M x).ys ≠ []) ks) (hj : Keys (fun x => (N x).ys ≠ []) js) (hm : Keys (fun z => z ∈ js ∨ z ∈ ks) ms) :
    Keys (fun z => dfQ M N z ≠ 0 ∨ dfV M N z ≠ 0) (ms.filter (dfN M N)) := by
  refine ⟨hm.nodup.sublist List.filter_sublist, fun x => ?_, hm.sorted.sublist List.filter_sublist⟩
  rw [List.mem_filter, dfN_iff, hm.mem]
  refine ⟨fun h => h.2, fun h => ⟨?_, h⟩⟩
  refine Classical.byContradiction fun c => ?_
  have c1 : (M x).ys = [] := Classical.byContradiction fun d => c (Or.inr ((hk.mem x).2 d))
  have c2 : (N x).ys = [] := Classical.byContradiction fun d => c (Or.inl ((hj.mem x).2 d))
  have e1 := st_zero c1
  have e2 := st_zero c2
  unfold dfQ dfV at h
  omega
theorem cmap_keys {W : World} {mb n : Nat} {D : DataW Value} {f : ByteArray → Chg} {dom : ByteArray → Prop} (h : CMap W mb n D f dom) {L : List ByteArray} (hd : ∀ x, dom x → x ∈ L) : Maps.size D ≤ L.length := by
  obtain ⟨ks, hk, hm⟩ := keysD h.map h.has_ (List.Perm.refl (strKeys D))
  have h1 := congrArg List.length hm
  rw [List.length_mergeSort, List.length_map] at h1
  have h2 : (strKeys D).length = Maps.size D := by
    obtain ⟨es, rfl⟩ : IsMap D := (h.map.canon law_strT).imp fun es ⟨e, _⟩ => e
    simp [strKeys, Maps.size]
  have := nodup_le ks L hk.nodup fun x hx => hd x ((hk.mem x).1 hx)
  omega
end Go.Proofs.YtcfgacdcgljbaaaGreat
