/- Items stand apart, and the order of the list says nothing, in plain mathematics. No walk. -/
import Derived.Test.YtgjjfeimgbibjaaKpConsM
namespace Go.Proofs.Ytgjjfeimgbibjaa
open Go.RowKit Go.Shelf
theorem stl_sorted (l : List Ev) : (stl l).Pairwise fun x y => ltOf cmpE y x = false := by
  obtain ⟨ps, _, hs, he⟩ := stl_pairs l
  rw [← he, List.pairwise_map]
  refine hs.imp fun {a b} h => ?_
  unfold ltP at h
  rw [Bool.or_eq_false_iff] at h
  exact h.1
theorem stl_nodup {l : List Ev} (hn : (l.map (·.id)).Nodup) : ((stl l).map (·.id)).Nodup := ((stl_perm l).map _).nodup_iff.2 hn
theorem stl_filter {l : List Ev} (hn : (l.map (·.id)).Nodup) (p : Ev → Bool) : stl (l.filter p) = (stl l).filter p := by
  refine sorted_one ((stl_perm _).trans ((stl_perm l).filter p).symm) (stl_sorted _) ((stl_sorted l).sublist List.filter_sublist) ?_
  exact stl_nodup (hn.sublist (List.filter_sublist.map _))
theorem stl_same {l l' : List Ev} (hp : l'.Perm l) (hn : (l.map (·.id)).Nodup) : stl l' = stl l := by
  refine sorted_one ((stl_perm _).trans (hp.trans (stl_perm l).symm)) (stl_sorted _) (stl_sorted _) ?_
  exact stl_nodup ((hp.map _).nodup_iff.2 hn)
theorem ordd_stl {l : List Ev} (h : ∀ e ∈ l, Rt e) : ordd l = stl l := by unfold ordd; rw [filter_rt h]
theorem goS_item (x : ByteArray) : ∀ (es : List Ev) (M M' : Stks), M x = M' x → goS M es x = goS M' (es.filter fun e => decide (e.item = x)) x
  | [], _, _, h => h
  | e :: es, M, M', h => by
    by_cases hx : e.item = x
    · rw [List.filter_cons_of_pos (by simpa using hx)]
      show goS (upd M e.item (doE (M e.item) e).1) es x = goS (upd M' e.item (doE (M' e.item) e).1) _ x
      refine goS_item x es _ _ ?_
      rw [hx, upd_same, upd_same, h]
    · rw [List.filter_cons_of_neg (by simpa using hx)]
      show goS (upd M e.item (doE (M e.item) e).1) es x = _
      refine goS_item x es _ _ ?_
      rw [upd_other _ _ _ _ (fun a => hx a.symm), h]
theorem goL_item (x : ByteArray) (q : Int → Bool) : ∀ (es : List Ev) (k : Nat) (M M' : Stks), (∀ y, StkOK k (M y)) → (∀ e ∈ es, Rt e) → (∀ e ∈ es, q e.id = decide (e.item = x)) → M x = M' x →
    goL M' (es.filter fun e => decide (e.item = x)) = (goL M es).filter fun y => q y.id
  | [], _, _, _, _, _, _, _ => rfl
  | e :: es, k, M, M', hok, hr, hq, h => by
    have he := hr e (List.mem_cons_self ..)
    have d := (doE_val (hok e.item) he.2.2).2.1
    have dk := doE_ok (hok e.item) he.2.2
    have hqe := hq e (List.mem_cons_self ..)
    have hr' : ∀ z ∈ es, Rt z := fun z hz => hr z (List.mem_cons_of_mem _ hz)
    have hq' : ∀ z ∈ es, q z.id = decide (z.item = x) := fun z hz => hq z (List.mem_cons_of_mem _ hz)
    show _ = ((doE (M e.item) e).2 :: goL (upd M e.item (doE (M e.item) e).1) es).filter _
    by_cases hx : e.item = x
    · rw [List.filter_cons_of_pos (by simpa using hx), List.filter_cons_of_pos (by rw [d, hqe]; simpa using hx)]
      show (doE (M' e.item) e).2 :: goL (upd M' e.item (doE (M' e.item) e).1) _ = _
      rw [goL_item x q es (k + 1) (upd M e.item (doE (M e.item) e).1) (upd M' e.item (doE (M' e.item) e).1) (upd_ok hok dk.1) hr' hq' (by rw [hx, upd_same, upd_same, h])]
      rw [hx, h]
    · rw [List.filter_cons_of_neg (by simpa using hx), List.filter_cons_of_neg (by rw [d, hqe]; simpa using hx)]
      exact goL_item x q es (k + 1) (upd M e.item (doE (M e.item) e).1) M' (upd_ok hok dk.1) hr' hq' (by rw [upd_other _ _ _ _ (fun a => hx a.symm), h])
/-- One item alone: its layers, its lines. -/
theorem apart {L m : List Ev} {x : ByteArray} (hr : ∀ e ∈ L, Rt e) (hn : (L.map (·.id)).Nodup) (hm : m = L.filter fun e => decide (e.item = x)) :
    goS stk00 (ordd m) x = goS stk00 (ordd L) x ∧ goL stk00 (ordd m) = (goL stk00 (ordd L)).filter fun y => m.any fun e => decide (e.id = y.id) := by
  have hrm : ∀ e ∈ m, Rt e := fun e he => hr e (by rw [hm] at he; exact (List.mem_filter.1 he).1)
  have e1 : ordd m = (ordd L).filter fun e => decide (e.item = x) := by
    rw [ordd_stl hrm, ordd_stl hr, hm, stl_filter hn]
  have hmem : ∀ e ∈ ordd L, e ∈ L := fun e he => by rw [ordd_stl hr] at he; exact (stl_perm L).mem_iff.1 he
  refine ⟨by rw [e1]; exact (goS_item x (ordd L) stk00 stk00 rfl).symm, ?_⟩
  rw [e1]
  refine goL_item x (fun i => m.any fun e => decide (e.id = i)) (ordd L) 0 stk00 stk00 (fun y => stk0_ok 0) (fun e he => hr e (hmem e he)) (fun e he => ?_) rfl
  have heL := hmem e he
  by_cases hx : e.item = x
  · rw [decide_eq_true hx, List.any_eq_true]
    exact ⟨e, by rw [hm, List.mem_filter]; exact ⟨heL, by simpa using hx⟩, by simp⟩
  · rw [decide_eq_false hx, List.any_eq_false]
    intro z hz hzi
    rw [hm, List.mem_filter] at hz
    have := id_inj hn z e hz.1 heL (by simpa using hzi)
    exact hx (by rw [← this]; simpa using hz.2)
end Go.Proofs.Ytgjjfeimgbibjaa
