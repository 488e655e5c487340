/- One item alone: its layers. -/
import Derived.Test.YtcfgacdcgljbaaaGreatRowOrd
namespace Go.Proofs.YtcfgacdcgljbaaaGreat
open Go.RowKit Go.Shelf
theorem goS_item (x : ByteArray) : ∀ (es : List Ev) (M M' : Stks), M x = M' x → goS M es x = goS M' (es.filter fun e => decide (e.item = x)) x
  | [], _, _, h => h
  | e :: es, M, M', h => by
    by_cases hx : e.item = x
    · rw [List.filter_cons_of_pos (by simpa using hx)]
      show goS (upd M e.item (doE (M e.item) e).1) es x = goS (upd M' e.item (doE (M' e.item) e).1) _ x
      refine goS_item x es _ _ ?_
      rw [hx, upd_same, upd_same, h]
    · rw [List.filter_cons_of_neg (by simpa using hx)]
      show goS (upd M e.item (doE (M e.item) e).1) es x = _
      refine goS_item x es _ _ ?_
      rw [upd_other _ _ _ _ (fun a => hx a.symm), h]
theorem apartS {L m : List Ev} {x : ByteArray} (hr : ∀ e ∈ L, Rt e) (hn : (L.map (·.id)).Nodup) (hm : m = L.filter fun e => decide (e.item = x)) : goS stk00 (ordd m) x = goS stk00 (ordd L) x := by
  have hrm : ∀ e ∈ m, Rt e := fun e he => hr e (by rw [hm] at he; exact (List.mem_filter.1 he).1)
  have e1 : ordd m = (ordd L).filter fun e => decide (e.item = x) := by
    rw [ordd_stl hrm, ordd_stl hr, hm, stl_filter hn]
  rw [e1]; exact (goS_item x (ordd L) stk00 stk00 rfl).symm
end Go.Proofs.YtcfgacdcgljbaaaGreat
