/- A book that is new; rows of one event, and of none. Behind each turn numbers are given once. The document's book tells the events that the program's does. No walk. -/
import Derived.Test.YtcfgacdcgljbaaaGreatDoorBnD
import Derived.Test.YtcfgacdcgljbaaaGreatDoorBnI
import Derived.Test.YtcfgacdcgljbaaaGreatDoorRefBookLook
import Derived.Test.YtcfgacdcgljbaaaGreatDoorBpC
namespace Go.Proofs.YtcfgacdcgljbaaaGreatDoor
open Go.RowKit
def bk0 : Bk := ⟨[], 0, 0⟩
theorem srt_one (x : Ev) : srt [x] = [x] := List.perm_singleton.1 (srt_perm [x])
theorem srt_nil : srt [] = [] := List.length_eq_zero_iff.1 (by rw [srt_len]; rfl)
theorem book_new (w : World) (B : Nat) (hB : B ≤ w.heap.size) : BookAt (w.alloc (.cells #[.slice none 0 0, .int .i64 0, .int .i64 0] 27)) B w.heap.size (.slice none 0 0) bk0 :=
  ⟨by simp, by simp [bk0], by simp [bk0], by simp, by simp, by simp, World.ownsRow_nil _ _ _ _, by simp [Value.ownBlock], hB⟩
end Go.Proofs.YtcfgacdcgljbaaaGreatDoor
namespace Go.Proofs.YtcfgacdcgljbaaaGreatDoor
open Go.RowKit
/-- Behind each turn numbers are given once. -/
def Own (b : Bk) : Prop := ∀ t : Int, t ≤ b.n → ((asOf b t).map (·.id)).Nodup
theorem own_zero : Own bk0 := fun t _ => by simp [asOf, bk0]
theorem own_step {b b' : Bk} {x : Ac} (h : Inv b) (hi : Inv b') (ho : Own b) (hs : StepA b x b') : Own b' := fun t ht => by
  have hn := step_n hs
  by_cases h1 : t ≤ b.n
  · rw [asOf_step h hs t h1]; exact ho t h1
  · have e : t = b'.n := by omega
    rw [e, asOf_now hi, List.map_map]
    exact hi.one
theorem asOf_late {b : Bk} (h : Inv b) {t : Int} (ht : b.n ≤ t) : asOf b t = asOf b b.n := by
  unfold asOf
  congr 1
  apply List.filter_congr
  intro v hv
  have h1 := (h.fr v hv).2
  have h2 := h.to v hv
  unfold isAt
  by_cases h3 : v.to = 0
  · simp [h1, h3]; omega
  · have h4 : ¬ b.n < v.to := by omega
    have h5 : ¬ t < v.to := by omega
    simp [h3, h4, h5]
theorem own_as {b : Bk} (h : Inv b) (ho : Own b) (t : Int) : ((asOf b (tOf b t)).map (·.id)).Nodup := by
  unfold tOf
  by_cases h0 : t < 0
  · rw [if_pos h0]; exact ho _ (Int.le_refl _)
  · rw [if_neg h0]
    by_cases h1 : t ≤ b.n
    · exact ho t h1
    · rw [asOf_late h (by omega)]; exact ho _ (Int.le_refl _)
end Go.Proofs.YtcfgacdcgljbaaaGreatDoor
namespace Go.Proofs.YtcfgacdcgljbaaaGreatDoor
open Go.RowKit
theorem asOf_sameR {b : Bk} (h : Inv b) (t : Int) : asOf b (tR b t) = asOf b (tOf b t) := by
  unfold tR tOf
  by_cases h0 : t < 0
  · rw [if_neg (by omega), if_pos h0]
  · rw [if_neg h0]
    by_cases h1 : t ≤ b.n
    · rw [if_pos (by omega)]
    · rw [if_neg (by omega)]; exact (asOf_late h (by omega)).symm
theorem as_oneR {b : Bk} (h : Inv b) (ho : Own b) (t : Int) {l : List Ev} (hp : l.Perm (asOf b (tR b t))) (hs : l.Pairwise fun x y => ltOf cmpE y x = false) : l = srt (asOf b (tOf b t)) := by
  rw [asOf_sameR h] at hp
  exact sorted_one (hp.trans (srt_perm _).symm) hs (srt_sorted _) ((hp.map _).symm.nodup (own_as h ho t))
theorem up_is {b : Bk} (h : Inv b) (ho : Own b) (n t : Int) : ∀ l : List Ev, l.Perm (asOf b (tR b t)) → (l.Pairwise fun x y => ltOf cmpE y x = false) → l.filter (fun e => decide (e.day ≤ n)) = evUp b n t := fun l hp hs => by
  rw [as_oneR h ho t hp hs]
  unfold evUp
  congr 1
  funext e
  by_cases c : n < e.day
  · have : ¬ e.day ≤ n := by omega
    simp [c, this]
  · have : e.day ≤ n := by omega
    simp [c, this]
theorem of_is {b : Bk} (h : Inv b) (ho : Own b) (x : ByteArray) (t : Int) : ∀ l : List Ev, l.Perm (asOf b (tR b t)) → (l.Pairwise fun x y => ltOf cmpE y x = false) → l.filter (fun e => decide (e.item = x)) = evOf b x t := fun l hp hs => by
  rw [as_oneR h ho t hp hs]
  rfl
theorem as_all {b : Bk} (hi : Inv b) (t : Int) (e : Ev) (he : e ∈ srt (asOf b t)) : Rt e ∧ EvW e := by
  obtain ⟨v, hv, rfl⟩ := List.mem_map.1 ((srt_perm _).mem_iff.1 he)
  have h1 := (List.mem_filter.1 hv).1
  exact ⟨hi.rt v h1, hi.ew v h1⟩
theorem up_ewR {b : Bk} (hi : Inv b) (n t : Int) : ∀ e ∈ evUp b n t, EvW e := fun e he => (as_all hi _ e (List.mem_filter.1 he).1).2
theorem of_ewR {b : Bk} (hi : Inv b) (x : ByteArray) (t : Int) : ∀ e ∈ evOf b x t, EvW e := fun e he => (as_all hi _ e (List.mem_filter.1 he).1).2
theorem of_rtR {b : Bk} (hi : Inv b) (x : ByteArray) (t : Int) : ∀ e ∈ evOf b x t, Rt e := fun e he => (as_all hi _ e (List.mem_filter.1 he).1).1
end Go.Proofs.YtcfgacdcgljbaaaGreatDoor
