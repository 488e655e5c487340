/- How tallymanref.ParseEvent ends: at an event's text with that event, at any other with the fault. -/
import Derived.Test.YtapkandekfndoaaGreatDoorRefEventWalk
namespace Go.Proofs.YtapkandekfndoaaGreatDoor
open Go.RowKit
theorem revent_ok (s : ByteArray) (e : Ev) (w : World) (hl : Glob w) (hs : s.size ≤ 300) (h : Reads s.data.toList e) :
    Calls Tryz.prog 36 #[.string s] w fun x w' => x = .returned (.tuple #[evV e, .int .i64 0]) ∧ Below w.heap.size w w' := by
  have hr : breadR (parts s) = e := by rw [breadR_ps]; exact reads_rread h
  have hw := breadR_w s hs
  rw [hr] at hw
  have ht : eb (ET e) = s := by rw [h.2.2, eb_data]
  refine revent_gen s s 0 e 0 w hl.num hl hs (fun v hv => ?_) (.inl ⟨rfl, by simp, hr.symm, rfl⟩)
  rw [hr]
  have := rtext_ok e v hv hw h.1
  rw [ht] at this
  exact this
theorem revent_bad (s : ByteArray) (w : World) (hl : Glob w) (hs : s.size ≤ 300) (h : ∀ e, ¬ Reads s.data.toList e) :
    Calls Tryz.prog 36 #[.string s] w fun x w' => x = .returned (.tuple #[evV ev0, .int .i64 3]) ∧ Below w.heap.size w w' := by
  have hw := breadR_w s hs
  rcases Classical.em (Rt (breadR (parts s))) with hr | hr
  · refine revent_gen s (eb (ET (breadR (parts s)))) 0 ev0 3 w hl.num hl hs (fun v hv => rtext_ok _ v hv hw hr) (.inr (.inl ⟨rfl, ?_, rfl, rfl⟩))
    rw [ByteArray.toList_eq, ByteArray.toList_eq]
    exact beq_eq_false_iff_ne.2 (fun he => h _ ⟨hr, rfl, he⟩)
  · exact revent_gen s ⟨#[]⟩ 1 ev0 3 w hl.num hl hs (fun v _ => rtext_bad _ v hw hr) (.inr (.inr ⟨rfl, rfl, rfl⟩))
end Go.Proofs.YtapkandekfndoaaGreatDoor
