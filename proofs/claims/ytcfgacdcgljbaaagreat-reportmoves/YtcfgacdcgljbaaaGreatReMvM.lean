/- What an item's moves come to, in plain mathematics. -/
import Derived.Test.YtcfgacdcgljbaaaGreatReMov
import Derived.Test.YtcfgacdcgljbaaaGreatApartS
import Derived.Test.YtcfgacdcgljbaaaGreatBnQ
import Derived.Test.YtcfgacdcgljbaaaGreatBnO
namespace Go.Proofs.YtcfgacdcgljbaaaGreat
open Go.RowKit Go.Maps
/-- How many there are behind a move, by its line. -/
def mvQ (e : Ev) (y : Lin) (q : Int) : Int := if e.kind = 1 then q + e.qty else if e.kind = 2 then q else if e.kind = 3 then q - e.qty + y.short else e.qty
theorem doE_q {k : Nat} {s : Stk} {e : Ev} (h : StkOK k s) (hr : rtK e.kind e.qty e.price e.ofI) : sumQ (doE s e).1.ys = mvQ e (doE s e).2 (sumQ s.ys) := by
  have hn := sum_nonneg h.ok
  unfold doE mvQ
  rcases hr with ⟨e1, a, b, c⟩ | ⟨e1, a, b, c⟩ | ⟨e1, a, b, c⟩ | ⟨e1, a, b, c⟩
  · simp only [if_pos e1]
    rw [sumQ_append]; simp only [sumQ]; omega
  · have n1 : ¬ e.kind = 1 := by omega
    have cs := chg_sum e.ofI e.price s.ys
    simp only [if_neg n1, if_pos e1]
    by_cases hh : hasId e.ofI s.ys = true
    · simp only [hh, if_true]; exact cs.1
    · simp only [hh]; rfl
  · have n1 : ¬ e.kind = 1 := by omega
    have n2 : ¬ e.kind = 2 := by omega
    simp only [if_neg n1, if_neg n2, if_pos e1]
    have t := tk_took s.ys e.qty h.ok (by omega)
    rcases Int.lt_or_le (sumQ s.ys) e.qty with c | c
    · have := t.many c; omega
    · have := t.few c; omega
  · have n1 : ¬ e.kind = 1 := by omega
    have n2 : ¬ e.kind = 2 := by omega
    have n3 : ¬ e.kind = 3 := by omega
    by_cases hlt : sumQ s.ys < e.qty
    · simp only [n1, n2, n3, hlt, if_false, if_true]
      rw [sumQ_append]; simp only [sumQ]; omega
    · have t := tk_took s.ys (sumQ s.ys - e.qty) h.ok (by omega)
      simp only [n1, n2, n3, hlt, if_false]
      have := t.few (by omega)
      omega
/-- An item's stock behind its first k events. -/
def stE (E : List Ev) (x : ByteArray) (k : Nat) : Stk := goS stk00 (E.take k) x
/-- A row of events of one item. -/
structure RowE (E : List Ev) (x : ByteArray) : Prop where
  rt : ∀ e ∈ E, Rt e
  it : ∀ e ∈ E, e.item = x
  nd : (E.map (·.id)).Nodup
  so : E.Pairwise fun x y => ltOf cmpE y x = false
theorem sorted_ordd {E : List Ev} (hr : ∀ e ∈ E, Rt e) (hn : (E.map (·.id)).Nodup) (hs : E.Pairwise fun x y => ltOf cmpE y x = false) : ordd E = E := by
  rw [ordd_stl hr]
  exact sorted_one (stl_perm E) (stl_sorted E) hs (stl_nodup hn)
theorem RowE.sub {E F : List Ev} {x : ByteArray} (h : RowE E x) (hs : F.Sublist E) : RowE F x :=
  ⟨fun e he => h.rt e (hs.subset he), fun e he => h.it e (hs.subset he), h.nd.sublist (hs.map _), h.so.sublist hs⟩
theorem RowE.ordd {E : List Ev} {x : ByteArray} (h : RowE E x) : Go.Proofs.YtcfgacdcgljbaaaGreat.ordd E = E := sorted_ordd h.rt h.nd h.so
theorem RowE.step {E : List Ev} {x : ByteArray} (h : RowE E x) {k : Nat} (hk : k < E.length) : stE E x (k + 1) = (doE (stE E x k) E[k]).1 ∧ (goL stk00 (E.take (k + 1)))[k]? = some (doE (stE E x k) E[k]).2 := by
  have hx := h.it E[k] (List.getElem_mem hk)
  unfold stE
  rw [List.take_succ_eq_append_getElem hk, goS_append, goL_append]
  refine ⟨?_, ?_⟩
  · show upd (goS stk00 (E.take k)) E[k].item (doE (goS stk00 (E.take k) E[k].item) E[k]).1 x = _
    rw [hx, upd_same]
  · have hl : (goL stk00 (E.take k)).length = k := by rw [goL_len, List.length_take]; omega
    rw [List.getElem?_append_right (by omega), hl, Nat.sub_self]
    show some (doE (goS stk00 (E.take k) E[k].item) E[k]).2 = _
    rw [hx]
theorem RowE.ok {E : List Ev} {x : ByteArray} (h : RowE E x) (k : Nat) : StkOK E.length (stE E x k) := by
  have h1 := (goS_ok (E.take k) 0 stk00 (fun y => stk0_ok 0) (fun e he => h.rt e (List.mem_of_mem_take he))).1 x
  exact h1.more (by rw [List.length_take]; omega)
/-- A day's row is a beginning. -/
def dayE (E : List Ev) (n : Int) : List Ev := E.filter fun e => !decide (n < e.day)
theorem RowE.day {E : List Ev} {x : ByteArray} (h : RowE E x) {k : Nat} (hk : k < E.length) (n : Int) :
    (E[k].day ≤ n → dayE (E.take (k + 1)) n = E.take (k + 1)) ∧ (¬ E[k].day ≤ n → dayE (E.take (k + 1)) n = dayE (E.take k) n) := by
  refine ⟨fun hd => ?_, fun hd => ?_⟩
  · unfold dayE
    rw [List.filter_eq_self]
    intro e he
    rw [List.take_succ_eq_append_getElem hk, List.mem_append, List.mem_singleton] at he
    have hle : e.day ≤ E[k].day := by
      rcases he with he | he
      · obtain ⟨j, hj, rfl⟩ := List.getElem_of_mem he
        rw [List.length_take] at hj
        rw [List.getElem_take]
        have hp := List.pairwise_iff_getElem.1 h.so j k (by omega) hk (by omega)
        refine Classical.byContradiction fun c => ?_
        have : ltOf cmpE E[k] E[j] = true := (lt_cmp _ _).2 (Or.inl (by omega))
        rw [this] at hp; cases hp
      · rw [he]; exact Int.le_refl _
    simp; omega
  · unfold dayE
    rw [List.take_succ_eq_append_getElem hk, List.filter_append]
    have : [E[k]].filter (fun e => !decide (n < e.day)) = [] := by
      rw [List.filter_cons_of_neg (by simp; omega)]; rfl
    rw [this, List.append_nil]
theorem RowE.lt {E : List Ev} {x : ByteArray} (h : RowE E x) {k : Nat} (hk : k + 1 < E.length) : cmpE E[k] E[k + 1] < 0 := by
  have hp := List.pairwise_iff_getElem.1 h.so k (k + 1) (by omega) hk (by omega)
  have hne : E[k].id ≠ E[k + 1].id := by
    have := List.pairwise_iff_getElem.1 (List.nodup_iff_pairwise_ne.1 h.nd) k (k + 1) (by rw [List.length_map]; omega) (by rw [List.length_map]; omega) (by omega)
    simpa using this
  have ht : ltOf cmpE E[k] E[k + 1] = true := by
    refine Classical.byContradiction fun c => ?_
    have c1 : ¬ ltOf cmpE E[k + 1] E[k] = true := by rw [hp]; simp
    rw [lt_cmp] at c c1
    omega
  simpa [ltOf] using ht
theorem ids_of_nodup {l : List Ev} (h : (l.map (·.id)).Nodup) : l.Nodup := List.Pairwise.of_map (fun e : Ev => e.id) (fun _ _ h e => h (by rw [e])) h
/-- The book's rows. -/
theorem row_of {b : Bk} (hi : Inv b) (ho : Own b) (x : ByteArray) (t : Int) : RowE (evOf b x t) x := by
  have hn : ((srt (asOf b (tOf b t))).map (·.id)).Nodup := ((srt_perm _).map _).symm.nodup (own_as hi ho t)
  have hall : ∀ e ∈ srt (asOf b (tOf b t)), Rt e := fun e he => by
    have h1 := (srt_perm _).mem_iff.1 he
    unfold asOf at h1
    obtain ⟨v, hv, rfl⟩ := List.mem_map.1 h1
    exact hi.rt v (List.mem_filter.1 hv).1
  exact ⟨fun e he => hall e (List.mem_filter.1 he).1, fun e he => by simpa using (List.mem_filter.1 he).2, hn.sublist (List.filter_sublist.map _), (srt_sorted _).sublist List.filter_sublist⟩
theorem st_day {b : Bk} (hi : Inv b) (ho : Own b) (x : ByteArray) (n t : Int) : goS stk00 (dayE (evOf b x t) n) x = stUp b n t x := by
  have hn : ((srt (asOf b (tOf b t))).map (·.id)).Nodup := ((srt_perm _).map _).symm.nodup (own_as hi ho t)
  have hall : ∀ e ∈ srt (asOf b (tOf b t)), Rt e := fun e he => by
    have h1 := (srt_perm _).mem_iff.1 he
    unfold asOf at h1
    obtain ⟨v, hv, rfl⟩ := List.mem_map.1 h1
    exact hi.rt v (List.mem_filter.1 hv).1
  have hm : dayE (evOf b x t) n = (evUp b n t).filter fun e => decide (e.item = x) := by
    unfold dayE evOf evUp
    rw [List.filter_filter, List.filter_filter]
    congr 1
    funext e
    rw [Bool.and_comm]
  have ha := apartS (L := evUp b n t) (m := dayE (evOf b x t) n) (x := x) (fun e he => hall e (List.mem_filter.1 he).1) (hn.sublist (List.filter_sublist.map _)) hm
  have hr : RowE (dayE (evOf b x t) n) x := (row_of hi ho x t).sub List.filter_sublist
  rw [hr.ordd] at ha
  exact ha
def ev00 : Ev := ⟨0, ⟨#[]⟩, 0, 0, 0, 0, 0⟩
/-- A move's fourteen cells. -/
def movF (E : List Ev) (x : ByteArray) (k : Nat) : List Value := evC (E.getD k ev00) ++ (linC (doE (stE E x k) (E.getD k ev00)).2 ++ [.int .i64 (sumQ (stE E x (k + 1)).ys), .int .i64 (sumV (stE E x (k + 1)).ys)])
theorem movF_len (E : List Ev) (x : ByteArray) (k : Nat) : (movF E x k).length = 14 := rfl
theorem flat_congr {α β : Type} (f g : α → List β) : ∀ (l : List α), (∀ a ∈ l, f a = g a) → l.flatMap f = l.flatMap g
  | [], _ => rfl
  | a :: l, h => by rw [List.flatMap_cons, List.flatMap_cons, h a (by simp), flat_congr f g l (fun b hb => h b (by simp [hb]))]
theorem mov_flat {E : List Ev} {x : ByteArray} (h : RowE E x) : (List.range E.length).flatMap (movC E x) = (List.range E.length).flatMap (movF E x) := by
  refine flat_congr _ _ _ fun k hk => ?_
  rw [List.mem_range] at hk
  have h1 := (h.sub (List.take_sublist (k + 1) E)).ordd
  have h2 := (h.step hk).2
  have e : E.getD k ev00 = E[k] := by rw [List.getD_eq_getElem?_getD, List.getElem?_eq_getElem hk]; rfl
  unfold movC movF
  rw [h1, h2, e, List.getElem?_eq_getElem hk]
  simp [stE]
/-- What there was up to a day, of the first k. -/
def dyE (E : List Ev) (x : ByteArray) (n : Int) (k : Nat) : Stk := goS stk00 (dayE (E.take k) n) x
theorem RowE.dy {E : List Ev} {x : ByteArray} (h : RowE E x) {k : Nat} (hk : k < E.length) (n : Int) : dyE E x n (k + 1) = if E[k].day ≤ n then stE E x (k + 1) else dyE E x n k := by
  unfold dyE stE
  split
  · rename_i hd; rw [(h.day hk n).1 hd]
  · rename_i hd; rw [(h.day hk n).2 hd]
end Go.Proofs.YtcfgacdcgljbaaaGreat
