/- Maps of texts to the document's holdings, and what Diff puts into one. The walk of tallymanref.Diff. -/
import Derived.Test.YtcfgacdcgljbaaaGreatDoorBpD
import Derived.Test.YtcfgacdcgljbaaaGreatDoorBpE
import Derived.Laws.AppendOwnNone
namespace Go.Proofs.YtcfgacdcgljbaaaGreatDoor
open Go.RowKit Go.Maps
theorem rho_ones (l : List Hld) : ∀ u ∈ l.flatMap rhC, u.oneCell' = true := fun u hu => by
  obtain ⟨p, _, hp⟩ := List.mem_flatMap.1 hu
  exact rhC_one p u hp
theorem app_hold {w : World} {ops : Array Oper} {rest : List Oper} {o : Oper} {a : Act} {Q : Exit → Act → World → Prop} (hgd : o.guard = none) (s x : Operand) (ho : o.op = .call { callee := .builtin .append, args := #[s, x], argTypes := #[100, 100] }) (B B2 : Nat) (v pv : Value) (l ps : List Hld) (hs : a.eval s = v) (hx : a.eval x = pv) (hown : w.ownsRow B 103 3 v l.length (l.flatMap rhC)) (hp : w.ownsRow B2 103 3 pv ps.length (ps.flatMap rhC)) (hl : l.length + ps.length ≤ 10000) (hB : B ≤ w.heap.size)
    (h : ∀ v' w', w'.ownsRow B 103 3 v' (l ++ ps).length ((l ++ ps).flatMap rhC) → w.grownBy w' v.ownBlock → wpList Tryz.prog ops Q rest (a.put o.dst v') w') : wpList Tryz.prog ops Q (o :: rest) a w := by
  obtain ⟨i0, hi, hz0, hz1, hz2⟩ := info_parts rho_info
  rcases own_form hp with ⟨e1, e2, _⟩ | ⟨g, cp, e1, _, hgl, _⟩
  · have : ps = [] := List.length_eq_zero_iff.1 e2
    subst this
    rw [e1] at hx
    refine wpList_append_own_none hgd s x 100 ho B 103 i0 3 Tryz.underlying100 hi v _ _ hs hown hx (h v w (by rw [List.append_nil]; exact hown) ⟨rfl, rfl, rfl, Nat.le_refl _, fun _ _ _ => rfl⟩)
  · subst e1
    refine wpList_append_own (P := Tryz.prog) _ hgd s x 100 ho B 103 i0 rhoZ 3 32 Tryz.underlying100 hi hz0 hz1 hz2 rfl (by decide) v _ _ hs hown ⟨g, 0, none⟩ ps.length cp (ps.flatMap rhC) hx ?_ ?_ (rho_ones ps) (by unfold maxLen; omega) (by omega) hB ?_
    · exact flat_len rhC 3 rhC_len ps
    · intro j u hj
      have h2 : j < ps.length * 3 := by
        rw [← flat_len rhC 3 rhC_len ps]
        exact (List.getElem?_eq_some_iff.1 hj).1
      have h3 : j / 3 < ps.length := by omega
      have h4 := (own_cell rhC_len hp (j / 3) (j % 3) h3 (by omega)).1
      have h5 : (ps.flatMap rhC)[j]? = (rhC ps[j / 3])[j % 3]? := by
        have h6 := flat_get rhC 3 rhC_len ps (j / 3) (j % 3) h3 (by omega)
        rw [show j / 3 * 3 + j % 3 = j by omega] at h6
        exact h6
      rw [Addr.add_lit, Nat.zero_add]
      rw [h5] at hj
      rw [← hj, ← h4]
      rw [show j / 3 * 3 + j % 3 = j by omega]
    · intro v' w' h1 h2 _
      refine h v' w' ?_ h2
      rw [List.length_append, List.flatMap_append]
      exact h1
def hld0 : Hld := ⟨⟨#[]⟩, 0, 0⟩
def hldV (c : Hld) : Value := .agg #[.string c.item, .int .i64 c.q, .int .i64 c.v]
theorem zero_hld (w : World) : (zeroValue 103).run Tryz.prog w = .ok (hldV hld0) w := by kernel_rfl
/-- A map of texts to holdings: which keys it has, and what it tells of each. -/
structure HMap (W : World) (mb n : Nat) (D : DataW Value) (f : ByteArray → Hld) (dom : ByteArray → Prop) : Prop where
  map : W.ownsMap Tryz.prog 9 heldE mb n D
  at_ : ∀ x, D.atKey (keyB x) (.held (hldV hld0)) = .held (hldV (f x))
  has_ : ∀ x, has D (keyB x) = true ↔ dom x
section
variable {W w' : World} {mb n : Nat} {D : DataW Value} {f : ByteArray → Hld} {dom : ByteArray → Prop}
theorem HMap.same (h : HMap W mb n D f dom) (e : w'.heap[mb]? = W.heap[mb]?) : HMap w' mb n D f dom := ⟨map_same h.map e, h.at_, h.has_⟩
theorem HMap.below (h : HMap W mb n D f dom) (hb : Below W.heap.size W w') : HMap w' mb n D f dom := h.same (hb.block _ h.map.lt)
theorem HMap.lt (h : HMap W mb n D f dom) : mb < W.heap.size := h.map.lt
theorem hmap_new (W : World) : HMap (W.alloc (.map #[] 0)) W.heap.size 0 (.map []) (fun _ => hld0) (fun _ => False) :=
  ⟨World.ownsMap_made W Tryz.prog 9 heldE, fun _ => rfl, fun x => by simp [has_eq]⟩
theorem HMap.ext {g : ByteArray → Hld} {dom' : ByteArray → Prop} (h : HMap W mb n D f dom) (hf : ∀ x, f x = g x) (hd : ∀ x, dom x ↔ dom' x) : HMap W mb n D g dom' :=
  ⟨h.map, fun x => by rw [h.at_, hf], fun x => by rw [h.has_, hd]⟩
theorem HMap.look (h : HMap W mb n D f dom) (x : ByteArray) (hx : x.size ≤ maxLen) : (Instr.lookup 199 (.map (some mb)) (.string x) false).run Tryz.prog W = .ok (hldV (f x)) W := by
  obtain ⟨v, ps, h1, h2⟩ := h.map.lookup law_strT Tryz.underlying199 (zero_hld W) (zd := .held (hldV hld0)) (zp := []) rfl (key_str x hx)
  have h3 := heldE_inv h2
  rw [h.at_ x] at h3
  rw [h1, ← held_inj h3]
theorem HMap.put (h : HMap W mb n D f dom) {x : ByteArray} {k : Hld} (hm : w'.ownsMap Tryz.prog 9 heldE mb (n + 1) (D.put (keyB x) (.held (hldV k)))) :
    HMap w' mb (n + 1) (D.put (keyB x) (.held (hldV k))) (fun z => if z = x then k else f z) (fun z => z = x ∨ dom z) := by
  have isM : IsMap D := (h.map.canon law_strT).imp fun es ⟨e, _⟩ => e
  refine ⟨hm, fun z => ?_, fun z => ?_⟩
  · by_cases e : z = x
    · subst e; rw [if_pos rfl, atKey_put_same isM (keyB_key z)]
    · rw [if_neg e, atKey_put_other (fun c => e (keyB_inj c)), h.at_]
  · by_cases e : z = x
    · subst e; simp [has_put_same isM (keyB_key z)]
    · rw [has_put_other (fun c => e (keyB_inj c)), h.has_]; simp [e]
end
/-- What is put into the map: of an item, so much more or less. -/
def sQ (l : List Hld) (z : ByteArray) : Int := (l.map fun h => if h.item = z then h.q else 0).sum
def sV (l : List Hld) (z : ByteArray) : Int := (l.map fun h => if h.item = z then h.v else 0).sum
theorem sQ_snoc (l : List Hld) (h : Hld) (z : ByteArray) : sQ (l ++ [h]) z = sQ l z + if h.item = z then h.q else 0 := by simp [sQ]
theorem sV_snoc (l : List Hld) (h : Hld) (z : ByteArray) : sV (l ++ [h]) z = sV l z + if h.item = z then h.v else 0 := by simp [sV]
theorem sQ_app (l m : List Hld) (z : ByteArray) : sQ (l ++ m) z = sQ l z + sQ m z := by simp [sQ]
theorem sV_app (l m : List Hld) (z : ByteArray) : sV (l ++ m) z = sV l z + sV m z := by simp [sV]
open Classical in
/-- What the map tells once those of a list are in it. -/
noncomputable def hAt (l : List Hld) (z : ByteArray) : Hld := if z ∈ l.map (·.item) then ⟨z, sQ l z, sV l z⟩ else hld0
theorem hAt_nil (z : ByteArray) : hAt [] z = hld0 := by unfold hAt; rw [if_neg (by simp)]
theorem sQ_not {l : List Hld} {z : ByteArray} (h : z ∉ l.map (·.item)) : sQ l z = 0 ∧ sV l z = 0 := by
  induction l with
  | nil => exact ⟨rfl, rfl⟩
  | cons a l ih =>
    simp only [List.map_cons, List.mem_cons, not_or] at h
    have h1 := ih h.2
    have h2 : ¬ a.item = z := fun e => h.1 e.symm
    simp only [sQ, sV, List.map_cons, List.sum_cons, if_neg h2] at h1 ⊢
    exact ⟨by rw [h1.1]; rfl, by rw [h1.2]; rfl⟩
theorem hAt_q (l : List Hld) (z : ByteArray) : (hAt l z).q = sQ l z ∧ (hAt l z).v = sV l z := by
  unfold hAt
  split
  · exact ⟨rfl, rfl⟩
  · rename_i h
    have := sQ_not h
    exact ⟨this.1.symm, this.2.symm⟩
theorem hAt_snoc (l : List Hld) (h : Hld) (z : ByteArray) : hAt (l ++ [h]) z = if z = h.item then ⟨h.item, sQ l h.item + h.q, sV l h.item + h.v⟩ else hAt l z := by
  by_cases e : z = h.item
  · subst e
    unfold hAt
    rw [if_pos (by simp), if_pos rfl, sQ_snoc, sV_snoc, if_pos rfl, if_pos rfl]
  · have e2 : ¬ h.item = z := fun c => e c.symm
    rw [if_neg e]
    unfold hAt
    rw [sQ_snoc, sV_snoc, if_neg e2, if_neg e2, Int.add_zero, Int.add_zero]
    by_cases e3 : z ∈ l.map (·.item)
    · rw [if_pos (by simp only [List.map_append, List.mem_append]; exact Or.inl e3), if_pos e3]
    · rw [if_neg (by simp only [List.map_append, List.mem_append, List.map_cons, List.map_nil, List.mem_singleton]; exact fun c => c.elim e3 e), if_neg e3]
/-- Bounds. -/
theorem sQ_bd (l : List Hld) (hb : ∀ h ∈ l, -100000000000000 ≤ h.q ∧ h.q ≤ 100000000000000 ∧ -100000000000000 ≤ h.v ∧ h.v ≤ 100000000000000) (z : ByteArray) :
    -(100000000000000 * (l.length : Int)) ≤ sQ l z ∧ sQ l z ≤ 100000000000000 * l.length ∧ -(100000000000000 * (l.length : Int)) ≤ sV l z ∧ sV l z ≤ 100000000000000 * l.length := by
  induction l with
  | nil => simp [sQ, sV]
  | cons a l ih =>
    have h1 := ih fun h hh => hb h (List.mem_cons_of_mem _ hh)
    have h2 := hb a List.mem_cons_self
    simp only [sQ, sV, List.map_cons, List.sum_cons, List.length_cons] at h1 ⊢
    push_cast
    split <;> omega
theorem sQ_map {f : ByteArray → Hld} (hf : ∀ x, (f x).item = x) : ∀ {ks : List ByteArray}, ks.Nodup → ∀ z, (z ∈ ks → sQ (ks.map f) z = (f z).q ∧ sV (ks.map f) z = (f z).v) ∧ (z ∉ ks → sQ (ks.map f) z = 0 ∧ sV (ks.map f) z = 0)
  | [], _, z => ⟨fun h => absurd h List.not_mem_nil, fun _ => ⟨rfl, rfl⟩⟩
  | k :: ks, hn, z => by
    rw [List.nodup_cons] at hn
    have ih := sQ_map hf hn.2 z
    by_cases e : k = z
    · subst e
      have h0 := ih.2 hn.1
      refine ⟨fun _ => ?_, fun c => absurd List.mem_cons_self c⟩
      simp only [sQ, sV, List.map_cons, List.sum_cons, hf, if_true] at h0 ⊢
      rw [h0.1, h0.2]
      exact ⟨Int.add_zero _, Int.add_zero _⟩
    · have e2 : ¬ (f k).item = z := by rw [hf]; exact e
      refine ⟨fun h => ?_, fun h => ?_⟩
      · have h1 := ih.1 ((List.mem_cons.1 h).resolve_left fun c => e c.symm)
        simp only [sQ, sV, List.map_cons, List.sum_cons, if_neg e2, Int.zero_add] at h1 ⊢
        exact h1
      · have h1 := ih.2 fun c => h (List.mem_cons_of_mem _ c)
        simp only [sQ, sV, List.map_cons, List.sum_cons, if_neg e2, Int.zero_add] at h1 ⊢
        exact h1
/-- What is taken off. -/
def nOf (N : Stks) (k : ByteArray) : Hld := ⟨k, -sumQ (N k).ys, -sumV (N k).ys⟩
theorem ent_is {M N : Stks} {ks js : List ByteArray} {A E : List Hld} (hA : A = ks.map (hOf M) ++ js.map (hOf N)) (hE : E = ks.map (hOf M) ++ js.map (nOf N)) (k : Nat) (h : k < A.length) (h' : k < E.length) :
    (k < ks.length → E[k] = A[k]) ∧ (¬ k < ks.length → E[k] = ⟨A[k].item, -A[k].q, -A[k].v⟩) := by
  subst hA hE
  refine ⟨fun c => ?_, fun c => ?_⟩
  · rw [List.getElem_append_left (by simpa using c), List.getElem_append_left (by simpa using c)]
  · rw [List.getElem_append_right (by simpa using c), List.getElem_append_right (by simpa using c)]
    simp [hOf, nOf]
theorem ent_bd {M N : Stks} {ks js : List ByteArray} (hM : ∀ x, StkOK 1000 (M x)) (hN : ∀ x, StkOK 1000 (N x)) : ∀ h ∈ ks.map (hOf M) ++ js.map (nOf N), -100000000000000 ≤ h.q ∧ h.q ≤ 100000000000000 ∧ -100000000000000 ≤ h.v ∧ h.v ≤ 100000000000000 := by
  intro h hh
  rcases List.mem_append.1 hh with hh | hh
  · obtain ⟨z, _, rfl⟩ := List.mem_map.1 hh
    have := st_bd (hM z)
    simp only [hOf]
    omega
  · obtain ⟨z, _, rfl⟩ := List.mem_map.1 hh
    have := st_bd (hN z)
    simp only [nOf]
    omega
/-- One more is put into the map. -/
theorem put_is {l : List Hld} (hb : ∀ h ∈ l, -100000000000000 ≤ h.q ∧ h.q ≤ 100000000000000 ∧ -100000000000000 ≤ h.v ∧ h.v ≤ 100000000000000) (hl : l.length ≤ 1000) {it : ByteArray} {q v : Int} (h2 : -100000000000000 ≤ q ∧ q ≤ 100000000000000 ∧ -100000000000000 ≤ v ∧ v ≤ 100000000000000) :
    wrap64 ((hAt l it).q + wrap64 q) = sQ l it + q ∧ wrap64 ((hAt l it).v + wrap64 v) = sV l it + v := by
  have h1 := sQ_bd l hb it
  have e := hAt_q l it
  rw [e.1, e.2, IntWalk.wrap64_in q ⟨by omega, by omega⟩, IntWalk.wrap64_in v ⟨by omega, by omega⟩]
  exact ⟨IntWalk.wrap64_in _ ⟨by omega, by omega⟩, IntWalk.wrap64_in _ ⟨by omega, by omega⟩⟩
theorem df_is {M N : Stks} {ks js : List ByteArray} (hk : Keys (fun x => (M x).ys ≠ []) ks) (hj : Keys (fun x => (N x).ys ≠ []) js) (z : ByteArray) :
    sQ (ks.map (hOf M) ++ js.map (nOf N)) z = dfQ M N z ∧ sV (ks.map (hOf M) ++ js.map (nOf N)) z = dfV M N z := by
  have a := sQ_map (f := hOf M) (fun _ => rfl) hk.nodup z
  have b := sQ_map (f := nOf N) (fun _ => rfl) hj.nodup z
  rw [sQ_app, sV_app]
  unfold dfQ dfV
  have a2 : sQ (ks.map (hOf M)) z = sumQ (M z).ys ∧ sV (ks.map (hOf M)) z = sumV (M z).ys := by
    by_cases h : z ∈ ks
    · exact a.1 h
    · have h1 := a.2 h
      have h2 := st_zero (s := M z) (Classical.byContradiction fun c => h ((hk.mem z).2 c))
      rw [h1.1, h1.2, h2.1, h2.2]; exact ⟨rfl, rfl⟩
  have b2 : sQ (js.map (nOf N)) z = -sumQ (N z).ys ∧ sV (js.map (nOf N)) z = -sumV (N z).ys := by
    by_cases h : z ∈ js
    · exact b.1 h
    · have h1 := b.2 h
      have h2 := st_zero (s := N z) (Classical.byContradiction fun c => h ((hj.mem z).2 c))
      rw [h1.1, h1.2, h2.1, h2.2]; exact ⟨rfl, rfl⟩
  omega
def dOf (M N : Stks) (k : ByteArray) : Hld := ⟨k, dfQ M N k, dfV M N k⟩
theorem dOf_flat (M N : Stks) (ks : List ByteArray) : (ks.map (dOf M N)).flatMap rhC = ks.flatMap (dfC M N) := by
  rw [List.flatMap_map]; rfl
theorem hold_keysD {M N : Stks} {S : List ByteArray} {out : List Hld} {P : ByteArray → Prop} (hp : out.Perm (S.map (dOf M N))) (hn : S.Nodup) (hm : ∀ x, x ∈ S ↔ P x) (hs : out.Pairwise fun a b => a.item.data.toList ≤ b.item.data.toList) : ∃ ks, Keys P ks ∧ out = ks.map (dOf M N) := by
  have e1 : (S.map (dOf M N)).map (·.item) = S := by rw [List.map_map]; exact List.map_id _
  have h1 := hp.map (·.item)
  rw [e1] at h1
  refine ⟨out.map (·.item), ⟨h1.nodup_iff.2 hn, fun x => h1.mem_iff.trans (hm x), List.pairwise_map.2 hs⟩, ?_⟩
  rw [List.map_map]
  have h2 : out.map id = out.map (dOf M N ∘ (·.item)) := List.map_congr_left fun a ha => by
    obtain ⟨z, _, rfl⟩ := List.mem_map.1 (hp.mem_iff.1 ha)
    rfl
  rw [List.map_id] at h2
  exact h2
theorem ent_items {M N : Stks} {ks js : List ByteArray} (z : ByteArray) : z ∈ (ks.map (hOf M) ++ js.map (nOf N)).map (·.item) ↔ z ∈ ks ∨ z ∈ js := by
  rw [List.map_append, List.map_map, List.map_map, List.mem_append]
  have e1 : ks.map ((·.item) ∘ hOf M) = ks := List.map_id _
  have e2 : js.map ((·.item) ∘ nOf N) = js := List.map_id _
  rw [e1, e2]
theorem df_mem {M N : Stks} {ks js : List ByteArray} (hk : Keys (fun x => (M x).ys ≠ []) ks) (hj : Keys (fun x => (N x).ys ≠ []) js) {x : ByteArray} (h : dfQ M N x ≠ 0 ∨ dfV M N x ≠ 0) : x ∈ ks ∨ x ∈ js := by
  refine Classical.byContradiction fun c => ?_
  have c1 : (M x).ys = [] := Classical.byContradiction fun d => c (Or.inl ((hk.mem x).2 d))
  have c2 : (N x).ys = [] := Classical.byContradiction fun d => c (Or.inr ((hj.mem x).2 d))
  have e1 := st_zero c1
  have e2 := st_zero c2
  unfold dfQ dfV at h
  omega
end Go.Proofs.YtcfgacdcgljbaaaGreatDoor
namespace Go.Proofs.YtcfgacdcgljbaaaGreatDoor
open Go.RowKit Go.Maps
theorem someRow (l : List Ev) : ∃ l' : List Ev, l'.Perm l ∧ (l'.Pairwise fun x y => ltOf cmpE y x = false) := ⟨srt l, srt_perm l, srt_sorted l⟩
set_option maxRecDepth 20000 in
set_option maxHeartbeats 8000000 in
theorem rdiff_any {B pb : Nat} {sv : Value} {b : Bk} {w : World} (h : RAt w B pb sv b) (hl : b.vs.length ≤ 200) (n t1 t2 : Int) (L1 L2 : List Ev) (hL1 : ∀ l : List Ev, l.Perm (asOf b (tR b t1)) → (l.Pairwise fun x y => ltOf cmpE y x = false) → l.filter (fun e => decide (e.day ≤ n)) = L1) (hL2 : ∀ l : List Ev, l.Perm (asOf b (tR b t2)) → (l.Pairwise fun x y => ltOf cmpE y x = false) → l.filter (fun e => decide (e.day ≤ n)) = L2) (hw1 : ∀ e ∈ L1, EvW e) (hw2 : ∀ e ∈ L2, EvW e) (hg : TabG w) :
    Calls Tryz.prog 36 #[.pointer (some ⟨pb, 0, none⟩), .int .i64 n, .int .i64 t1, .int .i64 t2] w fun r w' => ∃ (u : Value) (cs : List ByteArray), r = .returned u ∧ Keys (fun z => dfQ (goS stk00 (ordd L2)) (goS stk00 (ordd L1)) z ≠ 0 ∨ dfV (goS stk00 (ordd L2)) (goS stk00 (ordd L1)) z ≠ 0) cs ∧ w'.ownsRow w.heap.size 103 3 u cs.length (cs.flatMap (dfC (goS stk00 (ordd L2)) (goS stk00 (ordd L1)))) ∧ Below w.heap.size w w' := by
  obtain ⟨j0, ji, jz0, jz1, jz2⟩ := info_parts rho_info
  have hmm := @run_makeMap Tryz.prog
  have hat2 := fun (W : World) (hb : Below w.heap.size w W) => rat_any (h.below hb) hl n t2 L2 hL2 hw2 (hg.below hb)
  have hat1 := fun (W : World) (hb : Below w.heap.size w W) => rat_any (h.below hb) hl n t1 L1 hL1 hw1 (hg.below hb)
  have hlen1 : L1.length ≤ 200 := by
    obtain ⟨l, hp, hs⟩ := someRow (asOf b (tR b t1))
    rw [← hL1 l hp hs]
    refine Nat.le_trans (List.length_filter_le _ _) ?_
    rw [hp.length_eq]
    unfold asOf
    rw [List.length_map]
    exact Nat.le_trans (List.length_filter_le _ _) hl
  have hlen2 : L2.length ≤ 200 := by
    obtain ⟨l, hp, hs⟩ := someRow (asOf b (tR b t2))
    rw [← hL2 l hp hs]
    refine Nat.le_trans (List.length_filter_le _ _) ?_
    rw [hp.length_eq]
    unfold asOf
    rw [List.length_map]
    exact Nat.le_trans (List.length_filter_le _ _) hl
  have hokA : ∀ L : List Ev, L.length ≤ 200 → ∀ x, StkOK 1000 (goS stk00 (ordd L) x) := fun L hL x => by
    have h1 := (goS_ok (ordd L) 0 stk00 (fun y => stk0_ok 0) (ordd_rt L)).1 x
    exact h1.more (by have := ordd_len L; omega)
  have hszA : ∀ (L : List Ev) (x : ByteArray), (goS stk00 (ordd L) x).ys ≠ [] → x.size ≤ maxLen := fun L x hx => by
    obtain ⟨e, he, rfl⟩ := some_item hx
    have h1 := (ordd_rt L e he).1.1.2
    rw [eba_len] at h1
    unfold maxLen; omega
  have hklA : ∀ (L : List Ev) (ks : List ByteArray), L.length ≤ 200 → Keys (fun x => (goS stk00 (ordd L) x).ys ≠ []) ks → ks.length ≤ 200 := fun L ks hL hk => Nat.le_trans (keys_len hk) hL
  obtain ⟨M, hM⟩ : ∃ M, M = goS stk00 (ordd L2) := ⟨_, rfl⟩
  obtain ⟨N, hN⟩ : ∃ N, N = goS stk00 (ordd L1) := ⟨_, rfl⟩
  have hoM := hokA L2 hlen2
  have hoN := hokA L1 hlen1
  have hsM := hszA L2
  have hsN := hszA L1
  have hkM := fun ks => hklA L2 ks hlen2
  have hkN := fun ks => hklA L1 ks hlen1
  rw [← hM] at hat2 hoM hsM hkM
  rw [← hN] at hat1 hoN hsN hkN
  rw [← hM, ← hN]
  have HA1 := hidE hat1
  have HA2 := hidE hat2
  have HOM := hidE hoM
  have HON := hidE hoN
  have HSM := hidE hsM
  have HSN := hidE hsN
  have HKM := hidE hkM
  have HKN := hidE hkN
  clear hat1 hat2 hM hN hoM hoN hsM hsN hkM hkN hokA hszA hklA hlen1 hlen2 hL1 hL2 hw1 hw2 hg h
  go_enter Tryz.func36, Tryz.ntmps36
  go_wp2_with fail
  refine (HA2.out w (Below.refl _ _)).mono ?_
  rintro r w1 ⟨v1, ks, rfl, hks, hown1, hb1⟩
  obtain ⟨ad1, cp1, hv1⟩ := own_lenN hown1
  subst hv1
  have HB1 := hidE hb1
  have HO1 := hidE hown1
  have HKS := hidE hks
  clear hks hown1 hb1
  go_wp2_with fail
  refine (HA1.out w1 HB1.out).mono ?_
  rintro r w2 ⟨v2, js, rfl, hjs, hown2, hb2⟩
  obtain ⟨ad2, cp2, hv2⟩ := own_lenN hown2
  subst hv2
  have hkl := HKM.out ks HKS.out
  have hjl := HKN.out js hjs
  have hB2 : Below w.heap.size w w2 := HB1.out.trans (hb2.mono HB1.out.size)
  have row1 : w2.ownsRow w.heap.size 103 3 (.slice ad1 ks.length cp1) (ks.map (hOf M)).length ((ks.map (hOf M)).flatMap rhC) := by
    rw [hOf_flat, List.length_map]; exact own_below HO1.out hb2 (Nat.le_refl _)
  have row2 : w2.ownsRow w1.heap.size 103 3 (.slice ad2 js.length cp2) (js.map (hOf N)).length ((js.map (hOf N)).flatMap rhC) := by
    rw [hOf_flat, List.length_map]; exact hown2
  have hll : (ks.map (hOf M)).length + (js.map (hOf N)).length ≤ 10000 := by rw [List.length_map, List.length_map]; omega
  have hsz2 := hB2.size
  have HB2 := hidE hB2
  have HJS := hidE hjs
  clear hB2 hb2 hown2 hjs HO1
  go_wp2_with (first
    | (at_builtin; refine app_hold rfl _ _ rfl w.heap.size w1.heap.size (.slice ad1 ks.length cp1) (.slice ad2 js.length cp2) (ks.map (hOf M)) (js.map (hOf N)) rfl rfl row1 row2 hll hsz2 ?_)
    | go_in)
  intro v3 w3 hown3 hgr3
  obtain ⟨ad3, cp3, hv3⟩ := own_lenN hown3
  subst hv3
  have HB3 : Hid (Below w.heap.size w w3) := HB2.out.grown hgr3 hsz2 (fun j hj => (row1.lt j hj).1)
  obtain ⟨A, hA⟩ : ∃ A, A = ks.map (hOf M) ++ js.map (hOf N) := ⟨_, rfl⟩
  have hAl : A.length = ks.length + js.length := by rw [hA]; simp
  rw [← hAl] at hown3
  have hown3' : w3.ownsRow w.heap.size 103 3 (.slice ad3 A.length cp3) A.length (A.flatMap rhC) := by
    have e : A.flatMap rhC = (ks.map (hOf M)).flatMap rhC ++ (js.map (hOf N)).flatMap rhC := by rw [hA, List.flatMap_append]
    rw [e]; exact hown3
  have HO3 := hidE hown3'
  have HAA := hidE hA
  rw [← hAl]
  have HAL := hidE hAl
  clear hown3 hown3' hgr3 row1 row2 hll HB2 HB1 hsz2 hA hAl
  go_wp2_with fail
  refine (HA2.out w3 HB3.out).mono ?_
  rintro r w4 ⟨v4, ks2, rfl, hks2, hown4, hb4⟩
  obtain ⟨ad4, cp4, hv4⟩ := own_lenN hown4
  subst hv4
  obtain rfl : ks2 = ks := row_one hks2.nodup HKS.out.nodup (fun x => (hks2.mem x).trans (HKS.out.mem x).symm) hks2.sorted HKS.out.sorted
  obtain ⟨W5, hW5⟩ : ∃ W, W = w4.alloc (.map #[] 0) := ⟨_, rfl⟩
  have hb5 : Below w4.heap.size w4 W5 := by rw [hW5]; exact (Below.refl _ _).alloc (Nat.le_refl _) _
  have hm5 : HMap W5 w4.heap.size 0 (.map []) (fun _ => hld0) (fun _ => False) := by rw [hW5]; exact hmap_new w4
  obtain ⟨mb, hmb⟩ : ∃ m, m = w4.heap.size := ⟨_, rfl⟩
  have hs5 : W5.heap.size = mb + 1 := by rw [hW5, hmb]; simp
  rw [← hmb] at hm5
  have hB4 : Below w.heap.size w w4 := HB3.out.trans (hb4.mono HB3.out.size)
  have HB5 : Hid (Below w.heap.size w W5) := hB4.trans (hb5.mono hB4.size)
  have HO5 : Hid (W5.ownsRow w.heap.size 103 3 (.slice ad3 A.length cp3) A.length (A.flatMap rhC)) := own_below (own_below HO3.out hb4 (Nat.le_refl _)) hb5 (Nat.le_refl _)
  have HGL : Hid (∀ k, (Value.slice ad3 A.length cp3).ownBlock = some k → k < mb) := fun k e => by rw [hmb]; exact (own_below HO3.out hb4 (Nat.le_refl _)).lt k e |>.2
  have hwm : w.heap.size ≤ mb := by rw [hmb]; exact hB4.size
  have HM5 := hidE hm5
  have HW5 := hidE hW5
  have HMB := hidE hmb
  have HS5 := hidE hs5
  clear hks2 hown4 hb4 hB4 hb5 hm5 hW5 hmb hs5 HO3 HB3
  obtain ⟨E, hE⟩ : ∃ E, E = ks2.map (hOf M) ++ js.map (nOf N) := ⟨_, rfl⟩
  have hEl : E.length = A.length := by rw [hE, HAL.out]; simp
  have HEN : Hid (∀ (k : Nat) (h : k < A.length) (h' : k < E.length), (k < ks2.length → E[k] = A[k]) ∧ (¬ k < ks2.length → E[k] = ⟨A[k].item, -A[k].q, -A[k].v⟩)) := fun k h h' => ent_is HAA.out hE k h h'
  have HBD : Hid (∀ h ∈ E, -100000000000000 ≤ h.q ∧ h.q ≤ 100000000000000 ∧ -100000000000000 ≤ h.v ∧ h.v ≤ 100000000000000) := by
    show ∀ h ∈ E, _
    rw [hE]
    exact ent_bd HOM.out HON.out
  have HIS : Hid (∀ h ∈ A, h.item.size ≤ maxLen) := fun h hh => by
    rw [HAA.out] at hh
    rcases List.mem_append.1 hh with c | c
    · obtain ⟨z, hz, rfl⟩ := List.mem_map.1 c
      exact HSM.out z ((HKS.out.mem z).1 hz)
    · obtain ⟨z, hz, rfl⟩ := List.mem_map.1 c
      exact HSN.out z ((HJS.out.mem z).1 hz)
  have hAl4 : A.length ≤ 400 := by rw [HAL.out]; omega
  have HM50 : Hid (HMap W5 mb 0 (.map []) (hAt (E.take 0)) (fun z => z ∈ (E.take 0).map (·.item))) := HM5.out.ext (fun z => by rw [List.take_zero, hAt_nil]) (fun z => by simp)
  have HEE := hidE hE
  have HEL := hidE hEl
  clear hE hEl HM5
  go_wp2_with fail
  rw [← HW5.out]
  rw [← HMB.out]
  go_loopw [36] (fun i wr => ∃ (k m : Nat) (D : DataW Value), k ≤ A.length ∧ i = .int .i64 k ∧ m ≤ k ∧ Hid (HMap wr mb m D (hAt (E.take k)) (fun z => z ∈ (E.take k).map (·.item))) ∧ Hid (Below w.heap.size w wr) ∧ Hid (SameBut mb W5 wr)) (fun i _ => A.length - (intOf i).toNat)
  case atStart => exact ⟨0, 0, _, Nat.zero_le _, rfl, Nat.le_refl _, HM50, HB5, SameBut.refl _ _⟩
  case round =>
    obtain ⟨k, m, D, hk, rfl, hm, HM, HB, HSB⟩ := hrel
    have hsb := HSB.out.size
    by_cases hlt : k < A.length
    · have hkz : (k : Int) < (A.length : Int) := by omega
      rcases own_form HO5.out with ⟨_, e2, _⟩ | ⟨g, cp, e1, hgB, hgl, _⟩
      · rw [e2] at hlt; exact absurd hlt (Nat.not_lt_zero _)
      simp only [Value.slice.injEq] at e1
      obtain ⟨rfl, _, rfl⟩ := e1
      have hgm0 : g < mb := HGL.out g rfl
      have hgm : g ≠ mb := by omega
      have hkE : k < E.length := by rw [HEL.out]; exact hlt
      have hen := HEN.out k hlt hkE
      have q0 := (HSB.out.cell (p := ⟨g, k * 3 + 0, none⟩) hgl hgm).trans (own_cell (m := 3) rhC_len HO5.out k 0 hlt (by omega)).1
      have q1 := (HSB.out.cell (p := ⟨g, k * 3 + 1, none⟩) hgl hgm).trans (own_cell (m := 3) rhC_len HO5.out k 1 hlt (by omega)).1
      have q2 := (HSB.out.cell (p := ⟨g, k * 3 + 2, none⟩) hgl hgm).trans (own_cell (m := 3) rhC_len HO5.out k 2 hlt (by omega)).1
      have hxs := HIS.out A[k] (List.getElem_mem hlt)
      obtain ⟨ak, hak⟩ : ∃ a, a = A[k] := ⟨_, rfl⟩
      rw [← hak] at q0 q1 q2 hxs hen
      obtain ⟨it, aq, av⟩ := ak
      simp only [rhC, List.getElem?_cons_zero, List.getElem?_cons_succ, Nat.add_zero] at q0 q1 q2 hxs hen
      have HTK : Hid (E.take (k + 1) = E.take k ++ [E[k]]) := List.take_succ_eq_append_getElem hkE
      have HBE := hidE (HBD.out E[k] (List.getElem_mem hkE))
      have HBT : Hid (∀ h ∈ E.take k, -100000000000000 ≤ h.q ∧ h.q ≤ 100000000000000 ∧ -100000000000000 ≤ h.v ∧ h.v ≤ 100000000000000) := fun h hh => HBD.out h (List.mem_of_mem_take hh)
      have HLT : Hid ((E.take k).length ≤ 1000) := by show _ ≤ _; rw [List.length_take]; omega
      obtain ⟨cc, hcc⟩ : ∃ c, c = hAt (E.take k) it := ⟨_, rfl⟩
      obtain ⟨W1, hW1⟩ : ∃ W, W = wr.alloc (.cells #[.string it, .int .i64 aq, .int .i64 av] 103) := ⟨_, rfl⟩
      have hb6 : Below wr.heap.size wr W1 := by rw [hW1]; exact (Below.refl _ _).alloc (Nat.le_refl _) _
      have lk := (HM.out.below hb6).look it hxs
      rw [← hcc] at lk
      have HCC : Hid ((hAt (E.take k) it).q = cc.q ∧ (hAt (E.take k) it).v = cc.v) := ⟨by rw [hcc], by rw [hcc]⟩
      obtain ⟨ci, cq, cv⟩ := cc
      obtain ⟨W2, hW2⟩ : ∃ W, W = W1.alloc (.cells #[.string ci, .int .i64 cq, .int .i64 cv] 103) := ⟨_, rfl⟩
      have hb7 : Below wr.heap.size wr W2 := by rw [hW2]; exact hb6.alloc hb6.size _
      have HM7 := hidE (HM.out.below hb7)
      have HB7 := hidE hb7
      have hmraw : ((wr.alloc (.cells #[.string it, .int .i64 aq, .int .i64 av] 103)).alloc (.cells #[.string ci, .int .i64 cq, .int .i64 cv] 103)).ownsMap Tryz.prog 9 heldE mb m D := by
        rw [← hW1, ← hW2]; exact (HM.out.below hb7).map
      have HMR := hidE hmraw
      rw [hW1] at lk
      simp only [hldV] at lk
      have HW1 := hidE hW1
      have HW2 := hidE hW2
      have hsw := HB.out.size
      have hmw : mb < wr.heap.size := HM.out.lt
      clear hW1 hW2 hb6 hb7 hak hcc hmraw
      by_cases hkm : k < ks2.length
      · have hkg : ¬ ((ks2.length : Int) ≤ (k : Int)) := by omega
        have hEk := hen.1 hkm
        have HEK := hidE hEk
        clear hen hEk
        go_wp2_with (first
          | (at_mapUpdate; refine wpList_mapUpdate_own _ rfl _ _ _ 199 rfl 9 103 law_strT Tryz.underlying199 heldE mb m D rfl HMR.out (by unfold maxLen; omega) _ _ (keyB it) rfl rfl (key_str it hxs) _ [] rfl ?_)
          | go_in)
        intro w2 hm2 hg2
        have HP := hidE (put_is HBT.out HLT.out (it := it) (q := aq) (v := av) (by have h1 := HBE.out; rw [HEK.out] at h1; exact h1))
        have HM3 : Hid (HMap w2 mb (m + 1) _ (hAt (E.take (k + 1))) (fun z => z ∈ (E.take (k + 1)).map (·.item))) := (HM7.out.put (k := ⟨it, wrap64 (cq + wrap64 (aq)), wrap64 (cv + wrap64 (av))⟩) hm2).ext (fun z => by
            have h1 := HP.out
            have h2 := HCC.out
            rw [h2.1, h2.2] at h1
            rw [HTK.out, hAt_snoc, HEK.out, h1.1, h1.2]) (fun z => by rw [HTK.out, HEK.out]; simp [or_comm])
        rw [← HW1.out, ← HW2.out] at hg2
        have HB3 : Hid (Below w.heap.size w w2) := (HB.out.trans (HB7.out.mono hsw)).grown hg2 (by have := HB7.out.size; omega) (fun j e => by cases e; exact hwm)
        have HSB3 : Hid (SameBut mb W5 w2) := (HSB.out.below HB7.out).grown hg2
        clear hm2 hg2 q0 q1 q2 lk
        go_wp2
        go_roundw
        case rel => exact ⟨k + 1, m + 1, _, by omega, by go_num, by omega, HM3, HB3, HSB3⟩
        case measure => simp [intOf]; omega
      · have hkg : (ks2.length : Int) ≤ (k : Int) := by omega
        have hEk := hen.2 hkm
        have HEK := hidE hEk
        clear hen hEk
        go_wp2_with (first
          | (at_mapUpdate; refine wpList_mapUpdate_own _ rfl _ _ _ 199 rfl 9 103 law_strT Tryz.underlying199 heldE mb m D rfl HMR.out (by unfold maxLen; omega) _ _ (keyB it) rfl rfl (key_str it hxs) _ [] rfl ?_)
          | go_in)
        intro w2 hm2 hg2
        have hn1 : ∀ z : Int, wrap64 (-1 * z) = wrap64 (-z) := fun z => by rw [Int.neg_one_mul]
        try simp only [hn1, Int.neg_mul, Int.one_mul] at hm2
        have HP := hidE (put_is HBT.out HLT.out (it := it) (q := -aq) (v := -av) (by have h1 := HBE.out; rw [HEK.out] at h1; exact h1))
        have HM3 : Hid (HMap w2 mb (m + 1) _ (hAt (E.take (k + 1))) (fun z => z ∈ (E.take (k + 1)).map (·.item))) := (HM7.out.put (k := ⟨it, wrap64 (cq + wrap64 (-aq)), wrap64 (cv + wrap64 (-av))⟩) hm2).ext (fun z => by
            have h1 := HP.out
            have h2 := HCC.out
            rw [h2.1, h2.2] at h1
            rw [HTK.out, hAt_snoc, HEK.out, h1.1, h1.2]) (fun z => by rw [HTK.out, HEK.out]; simp [or_comm])
        rw [← HW1.out, ← HW2.out] at hg2
        have HB3 : Hid (Below w.heap.size w w2) := (HB.out.trans (HB7.out.mono hsw)).grown hg2 (by have := HB7.out.size; omega) (fun j e => by cases e; exact hwm)
        have HSB3 : Hid (SameBut mb W5 w2) := (HSB.out.below HB7.out).grown hg2
        clear hm2 hg2 q0 q1 q2 lk
        go_wp2
        go_roundw
        case rel => exact ⟨k + 1, m + 1, _, by omega, by go_num, by omega, HM3, HB3, HSB3⟩
        case measure => simp [intOf]; omega
    · have hk2 : k = A.length := by omega
      subst hk2
      have hkz : ¬ (A.length : Int) < (A.length : Int) := by omega
      have hET : E.take A.length = E := List.take_of_length_le (by rw [HEL.out]; exact Nat.le_refl _)
      rw [hET] at HM
      clear hET
      obtain ⟨wo, rfl⟩ : ∃ X, X = wr := ⟨_, rfl⟩
      obtain ⟨W6, hW6⟩ : ∃ W, W = wo.alloc (.cells #[.slice none 0 0] 100) := ⟨_, rfl⟩
      have hb6 : Below wo.heap.size wo W6 := by rw [hW6]; exact (Below.refl _ _).alloc (Nat.le_refl _) _
      have hT6 : HoAt W6 wo.heap.size (.slice none 0 0) ([] : List Hld) := by
        rw [hW6]
        exact ⟨Boxed.new wo _ _, World.ownsRow_nil _ _ _ _⟩
      obtain ⟨ob, hob⟩ : ∃ o, o = wo.heap.size := ⟨_, rfl⟩
      rw [← hob] at hT6 hb6
      have hmraw : (wo.alloc (.cells #[.slice none 0 0] 100)).ownsMap Tryz.prog 9 heldE mb m D := (HM.out.below ((Below.refl _ _).alloc (Nat.le_refl _) _)).map
      have HMR := hidE hmraw
      have HS6 : Hid (W6.heap.size = wo.heap.size + 1) := by show _ = _; rw [hW6]; simp
      have HW6 := hidE hW6
      have HOB := hidE hob
      have HT6 := hidE hT6
      have HB6 := hidE hb6
      have hmb : mb < ob := by rw [hob]; exact HM.out.lt
      have HSO : Hid (w.heap.size ≤ ob) := by show _ ≤ _; rw [hob]; exact HB.out.size
      clear hmraw hW6 hob hT6 hb6
      go_wp2_with (first
        | (at_range; refine wpList_range_own _ rfl _ 199 rfl 9 103 law_strT Tryz.underlying199 heldE mb m D rfl HMR.out ?_)
        | go_in)
      intro wR hrg0 hg0 hsR
      rw [← HW6.out] at hg0
      obtain ⟨ib, hib0⟩ : ∃ i, i = wo.heap.size + 1 := ⟨_, rfl⟩
      have hib : ib = W6.heap.size := by rw [hib0, HS6.out]
      rw [← hib0] at hrg0
      rw [← hib0, ← HOB.out]
      clear hib0
      have HG0 : Hid (wR.ranges Tryz.prog 9 heldE mb ib m D (Maps.has D) (Maps.size D)) := hrg0
      have hB4R : Below W6.heap.size W6 wR := ⟨hg0.os, hg0.tape, hg0.output, hg0.size, fun j hj => hg0.block j hj (by simp)⟩
      have HBR : Hid (Below ob wo wR) := HB6.out.trans (hB4R.mono (by have := HT6.out.box.lt; omega))
      have HTR : Hid (HoAt wR ob (.slice none 0 0) ((([] : List ByteArray).filter (dfN M N)).map (dOf M N))) := HT6.out.below hB4R
      have hobi : ob < ib := by rw [hib]; exact HT6.out.box.lt
      clear hrg0 hg0 hsR hB4R hib HMR HW6 HT6 HB6
      go_wp2
      go_loopw [] (fun wr => ∃ (left : Lit → Bool) (cnt : Nat) (S : List ByteArray) (ov : Value), Hid (Seen D left S) ∧ Hid (∀ x ∈ S, x ∈ E.map (·.item)) ∧ Hid (wr.ranges Tryz.prog 9 heldE mb ib m D left cnt) ∧ Hid (HoAt wr ob ov ((S.filter (dfN M N)).map (dOf M N))) ∧ Hid (Below ob wo wr)) (fun wr => wr.rangeLeft mb ib)
      case atStart => exact ⟨_, _, [], _, seen_zero D, fun x h => absurd h List.not_mem_nil, HG0, HTR, HBR⟩
      case round =>
        obtain ⟨left, cnt, S, ov, HSN', HNE, HR, HT, HBr⟩ := hrel
        go_wp2_with (at_next; refine wpList_next_ranges _ rfl _ rfl 9 law_strT heldE Value.string (fun c : Value => c) (fun key kl hkey => by obtain ⟨s, hs⟩ := Maps.keyOf_string_inv Tryz.underlying9 hkey; exact ⟨s, hs⟩) (fun v y _ => ⟨v, rfl⟩) mb ib m D left cnt rfl HR.out ?_ ?_)
        · intro hcz hlz
          have HK : Hid (∀ x, x ∈ S.filter (dfN M N) ↔ (dfQ M N x ≠ 0 ∨ dfV M N x ≠ 0)) := fun x => by
            rw [List.mem_filter, dfN_iff]
            refine ⟨fun h => h.2, fun h => ⟨?_, h⟩⟩
            have h1 : x ∈ E.map (·.item) := by rw [HEE.out, ent_items]; exact df_mem HKS.out HJS.out h
            rcases HSN'.out.all x ((HM.out.has_ x).2 h1) with h2 | h2
            · rw [hlz] at h2; cases h2
            · exact h2
          have hS2 : S.length ≤ 400 := by
            have h1 := nodup_le S (E.map (·.item)) HSN'.out.nd HNE.out
            rw [List.length_map, HEL.out] at h1
            omega
          have hS3 : ((S.filter (dfN M N)).map (dOf M N)).length ≤ 2000 := by
            rw [List.length_map]
            have := List.length_filter_le (dfN M N) S
            omega
          have cb := HT.out.box.cell
          obtain ⟨ao2, no, co, hov⟩ := own_lenK HT.out.row
          subst hov
          have hso := (sortsH (enters_of Tryz.func89 (by kernel_rfl) rfl) lessDiff) wr ob (.slice ao2 no co) _ HT.out hS3
          clear hcz hlz
          go_wp2_with fail
          refine hso.mono ?_
          rintro r w9 ⟨rfl, out9, hp9, hs9, ht9, hb9⟩
          have cb9 := ht9.box.cell
          have HF : Hid (∃ cs : List ByteArray, Keys (fun z => dfQ M N z ≠ 0 ∨ dfV M N z ≠ 0) cs ∧ w9.ownsRow w.heap.size 103 3 (.slice ao2 no co) cs.length (cs.flatMap (dfC M N)) ∧ Below w.heap.size w w9) := by
            obtain ⟨cs, hcs, hout⟩ := hold_keysD hp9 (HSN'.out.nd.sublist List.filter_sublist) HK.out hs9
            refine ⟨cs, hcs, ?_, ?_⟩
            · have h1 := own_below ht9.row (Below.refl _ _) HSO.out
              rw [hout, dOf_flat, List.length_map] at h1
              exact h1
            · exact HB.out.trans ((HBr.out.trans hb9).mono HSO.out)
          clear hso hp9 hs9 ht9 hb9 cb hS3
          go_wp2
          go_ret
          obtain ⟨cs, h1, h2, h3⟩ := HF.out
          exact ⟨_, cs, rfl, h1, h2, h3⟩
        · intro x c kl yd yp w5 cnt2 hkey hlk hcv hat hrg2 hlt2 hgr2 hsz2 hen
          obtain ⟨rfl, hxs⟩ := key_inv hkey
          have hne := HT.out.ranged HR.out
          have HT5 : Hid (HoAt w5 ob ov ((S.filter (dfN M N)).map (dOf M N))) := HT.out.grown hgr2 hne.2.1 hne.2.2.2
          have HR5 : Hid (w5.ranges Tryz.prog 9 heldE mb ib m D (fun z => left z && !z.sameKey (keyB x)) cnt2) := hrg2
          have HB5 : Hid (Below ob wo w5) := HBr.out.grown hgr2 (by have := HR.out.lt; omega) (fun j hj => by cases hj; omega)
          have HLV : Hid (wr.rangeLeft mb ib = cnt) := HR.out.left_eq
          have HSN2 : Hid (Seen D (fun z => left z && !z.sameKey (keyB x)) (S ++ [x])) := HSN'.out.step hlk
          have hxe : x ∈ E.map (·.item) := (HM.out.has_ x).1 (has_true_of_atKey hat)
          have HNE2 : Hid (∀ z ∈ S ++ [x], z ∈ E.map (·.item)) := fun z hz => by
            rcases List.mem_append.1 hz with h1 | h1
            · exact HNE.out z h1
            · rw [List.mem_singleton] at h1; rw [h1]; exact hxe
          have HSL : Hid (S.length ≤ 400) := by
            have h1 := nodup_le S (E.map (·.item)) HSN'.out.nd HNE.out
            rw [List.length_map, HEL.out] at h1
            show _ ≤ _
            omega
          have hcx : c = hldV (dOf M N x) := by
            have h1 := hat (.held (hldV hld0))
            rw [HM.out.at_ x, heldE_inv hcv] at h1
            have h2 := held_inj h1
            rw [← h2]
            unfold hAt
            rw [if_pos hxe]
            have h3 := df_is HKS.out HJS.out x
            rw [← HEE.out] at h3
            rw [h3.1, h3.2]
            rfl
          subst hcx
          have HFL : Hid ((S ++ [x]).filter (dfN M N) = S.filter (dfN M N) ++ if dfN M N x then [x] else []) := by
            show _ = _
            rw [List.filter_append, List.filter_cons]
            cases dfN M N x <;> rfl
          have HDO : Hid (dOf M N x = ⟨x, dfQ M N x, dfV M N x⟩) := rfl
          have HDN : Hid (dfN M N x = !(decide (dfQ M N x = 0) && decide (dfV M N x = 0))) := rfl
          clear hrg2 hat hcv hlk hkey hgr2 hsz2 hne hxe HT HBr HNE HSN'
          unfold hldV dOf at hen ⊢
          generalize dfQ M N x = dq at hen HDO HDN ⊢
          generalize dfV M N x = dv at hen HDO HDN ⊢
          simp only at hen ⊢
          have cb := HT5.out.box.cell
          have hfb := HT5.out.box.frozen
          have hwl2 : ob < w5.heap.size := HT5.out.box.lt
          by_cases hz : dq = 0 ∧ dv = 0
          · obtain ⟨rfl, rfl⟩ := hz
            have HN0 : Hid ((S ++ [x]).filter (dfN M N) = S.filter (dfN M N)) := by
              show _ = _
              rw [HFL.out, if_neg (by rw [HDN.out]; simp), List.append_nil]
            have HT6 : Hid (∀ o, HoAt (w5.alloc o) ob ov (((S ++ [x]).filter (dfN M N)).map (dOf M N))) := fun o => by
              rw [HN0.out]; exact HT5.out.below ((Below.refl _ _).alloc (Nat.le_refl _) _)
            have HB6 : Hid (∀ o, Below ob wo (w5.alloc o)) := fun o => HB5.out.alloc (by omega) o
            go_wp2
            go_roundw
            case rel => exact ⟨_, cnt2, S ++ [x], _, HSN2, HNE2, HR5.out.alloc _, HT6.out _, HB6.out _⟩
            case measure =>
              rw [HLV.out, (HR5.out.alloc _).left_eq]
              exact hlt2
          · have HN1 : Hid (((S ++ [x]).filter (dfN M N)).map (dOf M N) = (S.filter (dfN M N)).map (dOf M N) ++ [⟨x, dq, dv⟩]) := by
              show _ = _
              rw [HFL.out, if_pos (by rw [HDN.out]; by_cases h1 : dq = 0 <;> by_cases h2 : dv = 0 <;> simp [h1, h2]; exact hz ⟨h1, h2⟩), List.map_append, List.map_cons, List.map_nil, HDO.out]
            obtain ⟨O, hO⟩ : ∃ O, O = (S.filter (dfN M N)).map (dOf M N) := ⟨_, rfl⟩
            have hOl : O.length ≤ 400 := by
              rw [hO, List.length_map]
              have h1 := List.length_filter_le (dfN M N) S
              have h2 := HSL.out
              omega
            rw [← hO] at HN1 HT5
            clear hO
            obtain ⟨W7, hW7⟩ : ∃ W, W = w5.alloc (.cells #[.string x, .int .i64 dq, .int .i64 dv] 103) := ⟨_, rfl⟩
            have hb57 : Below w5.heap.size w5 W7 := by rw [hW7]; exact (Below.refl _ _).alloc (Nat.le_refl _) _
            have HT7 : Hid (HoAt W7 ob ov O) := HT5.out.below hb57
            have HR7 : Hid (W7.ranges Tryz.prog 9 heldE mb ib m D (fun z => left z && !z.sameKey (keyB x)) cnt2) := ranges_on HR5.out hb57
            have HB7 : Hid (Below ob wo W7) := HB5.out.trans (hb57.mono (by omega))
            have hs7 : W7.heap.size = w5.heap.size + 1 := by rw [hW7]; simp
            have hrow7 := HT7.out.row
            have HW7 := hidE hW7
            have HS7 := hidE hs7
            have hwl7 : ob ≤ W7.heap.size := by omega
            obtain ⟨ao2, no, co, hov⟩ := own_lenK hrow7
            subst hov
            have hraw : ((w5.alloc (.cells #[.string x, .int .i64 dq, .int .i64 dv] 103)).alloc (.cells #[.string x, .int .i64 dq, .int .i64 dv] 103)).ownsRow ob 103 3 (.slice ao2 no co) O.length (O.flatMap rhC) := by
              rw [← hW7]; exact hrow7.alloc _
            have HRAW := hidE hraw
            have hq : (dq ≠ 0 ∧ (dq == 0) = false) ∨ (dq = 0 ∧ dv ≠ 0 ∧ (dv == 0) = false) := by
              by_cases h1 : dq = 0
              · have h2 : dv ≠ 0 := fun c => hz ⟨h1, c⟩
                exact Or.inr ⟨h1, h2, by simpa using h2⟩
              · exact Or.inl ⟨h1, by simpa using h1⟩
            clear hz hW7 hb57 hs7 hraw HT5 HB5
            rcases hq with ⟨hq1, hq2⟩ | ⟨rfl, hq1, hq2⟩
            · go_wp2_with (first
                | (at_builtin; refine wpList_append_own _ rfl _ _ 100 rfl ob 103 j0 rhoZ 3 32 Tryz.underlying100 ji jz0 jz1 jz2 rfl (by decide) (.slice ao2 no co) _ _ rfl HRAW.out ⟨w5.heap.size + 1, 0, none⟩ 1 1 (rhC ⟨x, dq, dv⟩) rfl rfl ?d1 ?d2 ?d3 ?d4 ?d5 ?_)
                | go_in)
              case d1 => first | exact fun _ _ h => h | exact cells_of_list (w := w5.alloc _) (b := w5.heap.size + 1) (by simp)
              case d2 => exact rhC_one _
              case d3 => unfold maxLen; omega
              case d4 => omega
              case d5 => first | omega | (simp; omega)
              intro v8 w8 hown8 hgr8 _
              rw [← HW7.out] at hgr8
              obtain ⟨a8, n8, c8, hv8⟩ := own_lenK hown8
              subst hv8
              obtain ⟨b8, b9, o9, _, bl9⟩ := Boxed.appended (n₀ := ob) (tmp := .cells #[.string x, .int .i64 dq, .int .i64 dv] 103) HT7.out.box (by decide) hrow7 hwl7 (Nat.le_refl _) hown8 hgr8
              have hne8 := HT7.out.ranged HR7.out
              have cb8 := b8.cell
              have fb8 := b8.frozen
              obtain ⟨W9, hW9⟩ : ∃ X, X = w8.setCell ⟨ob, 0, none⟩ (.slice a8 n8 c8) := ⟨_, rfl⟩
              have HR9 : Hid (W9.ranges Tryz.prog 9 heldE mb ib m D (fun z => left z && !z.sameKey (keyB x)) cnt2) := by
                rw [hW9]
                exact ((HR7.out.alloc _).kept hgr8 hne8.2.2.1 hne8.2.2.2).kept (grownBy_setCell' _ _ _) (by simpa using hne8.1) (by simpa using hne8.2.1)
              rw [← hW9] at b9 o9 bl9
              have HT9 : Hid (HoAt W9 ob (.slice a8 n8 c8) (((S ++ [x]).filter (dfN M N)).map (dOf M N))) := by
                refine ⟨b9, ?_⟩
                rw [HN1.out, List.length_append, List.flatMap_append]
                simpa using o9
              have HB9 : Hid (Below ob wo W9) := HB7.out.trans bl9
              have HW9 := hidE hW9
              clear hown8 hgr8 b8 b9 o9 bl9 hW9 hne8 cb hfb
              go_wp2_with fail
              rw [← HW9.out]
              go_roundw
              case rel => exact ⟨_, cnt2, S ++ [x], _, HSN2, HNE2, HR9, HT9, HB9⟩
              case measure =>
                rw [HLV.out, HR9.out.left_eq]
                exact hlt2
            · go_wp2_with (first
                | (at_builtin; refine wpList_append_own _ rfl _ _ 100 rfl ob 103 j0 rhoZ 3 32 Tryz.underlying100 ji jz0 jz1 jz2 rfl (by decide) (.slice ao2 no co) _ _ rfl HRAW.out ⟨w5.heap.size + 1, 0, none⟩ 1 1 (rhC ⟨x, 0, dv⟩) rfl rfl ?d1 ?d2 ?d3 ?d4 ?d5 ?_)
                | go_in)
              case d1 => first | exact fun _ _ h => h | exact cells_of_list (w := w5.alloc _) (b := w5.heap.size + 1) (by simp)
              case d2 => exact rhC_one _
              case d3 => unfold maxLen; omega
              case d4 => omega
              case d5 => first | omega | (simp; omega)
              intro v8 w8 hown8 hgr8 _
              rw [← HW7.out] at hgr8
              obtain ⟨a8, n8, c8, hv8⟩ := own_lenK hown8
              subst hv8
              obtain ⟨b8, b9, o9, _, bl9⟩ := Boxed.appended (n₀ := ob) (tmp := .cells #[.string x, .int .i64 0, .int .i64 dv] 103) HT7.out.box (by decide) hrow7 hwl7 (Nat.le_refl _) hown8 hgr8
              have hne8 := HT7.out.ranged HR7.out
              have cb8 := b8.cell
              have fb8 := b8.frozen
              obtain ⟨W9, hW9⟩ : ∃ X, X = w8.setCell ⟨ob, 0, none⟩ (.slice a8 n8 c8) := ⟨_, rfl⟩
              have HR9 : Hid (W9.ranges Tryz.prog 9 heldE mb ib m D (fun z => left z && !z.sameKey (keyB x)) cnt2) := by
                rw [hW9]
                exact ((HR7.out.alloc _).kept hgr8 hne8.2.2.1 hne8.2.2.2).kept (grownBy_setCell' _ _ _) (by simpa using hne8.1) (by simpa using hne8.2.1)
              rw [← hW9] at b9 o9 bl9
              have HT9 : Hid (HoAt W9 ob (.slice a8 n8 c8) (((S ++ [x]).filter (dfN M N)).map (dOf M N))) := by
                refine ⟨b9, ?_⟩
                rw [HN1.out, List.length_append, List.flatMap_append]
                simpa using o9
              have HB9 : Hid (Below ob wo W9) := HB7.out.trans bl9
              have HW9 := hidE hW9
              clear hown8 hgr8 b8 b9 o9 bl9 hW9 hne8 cb hfb
              go_wp2_with fail
              rw [← HW9.out]
              go_roundw
              case rel => exact ⟨_, cnt2, S ++ [x], _, HSN2, HNE2, HR9, HT9, HB9⟩
              case measure =>
                rw [HLV.out, HR9.out.left_eq]
                exact hlt2
end Go.Proofs.YtcfgacdcgljbaaaGreatDoor
