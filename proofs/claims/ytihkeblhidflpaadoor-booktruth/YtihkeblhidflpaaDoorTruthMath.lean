/- What each event was last told to be, in plain mathematics and as a map's data. -/
import Derived.Test.YtihkeblhidflpaaDoorBookMath
import Derived.Maps.OwnOps
import Derived.Maps.OwnSet
import Derived.Maps.RangeWalk
namespace Go.Proofs.YtihkeblhidflpaaDoor
open Go.RowKit
open Go.Maps (Keyed int_keyed keyOf_int_mk)
def known (b : Bk) : List Ev := (b.vs.filter isNow).map (·.ev)
def ev0 : Ev := ⟨0, ⟨#[]⟩, 0, 0, 0, 0, 0⟩
/-- An event of a number was last told to be e (a blank one: it never was). -/
def LastIs (b : Bk) (id : Int) (e : Ev) : Prop := (e ∈ known b ∧ e.id = id) ∨ (e = ev0 ∧ ∀ x ∈ known b, x.id ≠ id)
theorem known_nodup {b : Bk} (h : Inv b) : ((known b).map (·.id)).Nodup := by
  have := h.one
  unfold known
  rw [List.map_map]; exact this
theorem known_id {b : Bk} (h : Inv b) (x : Ev) (hx : x ∈ known b) : 1 ≤ x.id ∧ x.id ≤ b.g := by
  obtain ⟨v, hv, rfl⟩ := List.mem_map.1 hx
  exact h.id v (List.mem_filter.1 hv).1
theorem known_post (b : Bk) (e : Ev) (x : Ev) : x ∈ known (postB b e) ↔ x ∈ known b ∨ x = { e with id := b.g + 1 } := by
  unfold known postB wrB
  simp only [List.filter_append, List.map_append, List.mem_append]
  have : (([(⟨{ e with id := b.g + 1 }, b.n + 1, 0⟩ : Vr)].filter isNow).map (·.ev)) = [{ e with id := b.g + 1 }] := by simp [isNow]
  rw [this, List.mem_singleton]
theorem known_end {b : Bk} (h : Inv b) {k : Nat} {id : Int} (hk : k < b.vs.length) (hx : kIx b.vs id = k) (x : Ev) : x ∈ ((setTo b.vs k (b.n + 1)).filter isNow).map (·.ev) ↔ x ∈ known b ∧ x.id ≠ id := by
  obtain ⟨hid, hto⟩ := kIx_at hk hx
  obtain ⟨A, C, h1, h2⟩ := setTo_now b.vs k (b.n + 1) hk (by have := h.n0; omega) hto
  have hn := known_nodup h
  unfold known at hn ⊢
  rw [h2]
  rw [h1] at hn ⊢
  simp only [List.map_append, List.map_cons, List.mem_append, List.mem_cons]
  simp only [List.map_append, List.map_cons] at hn
  rw [List.nodup_append] at hn
  obtain ⟨_, hn2, hn3⟩ := hn
  rw [List.nodup_cons] at hn2
  constructor
  · rintro (hx | hx)
    · refine ⟨Or.inl hx, fun e => ?_⟩
      have h3 : x.id ∈ (A.map (·.ev)).map (·.id) := List.mem_map.2 ⟨x, hx, rfl⟩
      exact hn3 _ h3 (b.vs[k].ev.id) List.mem_cons_self (by rw [e, hid])
    · refine ⟨Or.inr (Or.inr hx), fun e => ?_⟩
      exact hn2.1 (by rw [hid, ← e]; exact List.mem_map.2 ⟨x, hx, rfl⟩)
  · rintro ⟨hx | hx | hx, hne⟩
    · exact Or.inl hx
    · exact absurd (by rw [hx, hid]) hne
    · exact Or.inr hx
theorem known_void {b : Bk} (h : Inv b) {k : Nat} {id : Int} (hk : k < b.vs.length) (hx : kIx b.vs id = k) (x : Ev) : x ∈ known (endB b k) ↔ x ∈ known b ∧ x.id ≠ id := known_end h hk hx x
theorem known_corr {b : Bk} (h : Inv b) {k : Nat} {id : Int} (hk : k < b.vs.length) (hx : kIx b.vs id = k) (e x : Ev) : x ∈ known (corrB b k id e) ↔ (x ∈ known b ∧ x.id ≠ id) ∨ x = { e with id := id } := by
  rw [← known_end h hk hx x]
  unfold known corrB wrB endB
  simp only [List.filter_append, List.map_append, List.mem_append]
  have : (([(⟨{ e with id := id }, b.n + 1, 0⟩ : Vr)].filter isNow).map (·.ev)) = [{ e with id := id }] := by simp [isNow]
  rw [this, List.mem_singleton]
theorem kIx_range {b : Bk} (h : Inv b) {k : Nat} {id : Int} (hk : k < b.vs.length) (hx : kIx b.vs id = k) : 1 ≤ id ∧ id ≤ b.g := by
  have := h.id b.vs[k] (List.getElem_mem hk)
  rw [(kIx_at hk hx).1] at this
  exact this
/-- How an event reads that is a map's element. -/
def evElem : Value → Option (DataW Unit × List MemPlace)
  | .agg ⟨[.int .i64 a0, .string a1, .int .i64 a2, .int .i64 a3, .int .i64 a4, .int .i64 a5, .int .i64 a6]⟩ => some (evL ⟨a0, a1, a2, a3, a4, a5, a6⟩, [])
  | _ => none
theorem evElem_mk (e : Ev) : evElem (evV e) = some (evL e, []) := rfl
theorem evElem_inv {v : Value} {y : DataW Unit × List MemPlace} (h : evElem v = some y) : ∃ e, v = evV e ∧ y = (evL e, []) := by
  unfold evElem at h
  split at h
  · rename_i a0 a1 a2 a3 a4 a5 a6
    exact ⟨⟨a0, a1, a2, a3, a4, a5, a6⟩, rfl, (Option.some.inj h).symm⟩
  · cases h
theorem evL_inj {e e' : Ev} (h : (evL e : DataW Unit) = evL e') : e = e' := by
  obtain ⟨a0, ⟨⟨a1⟩⟩, a2, a3, a4, a5, a6⟩ := e
  obtain ⟨b0, ⟨⟨b1⟩⟩, b2, b3, b4, b5, b6⟩ := e'
  simp [evL] at h
  obtain ⟨h0, h1, h2, h3, h4, h5, h6⟩ := h
  subst h0 h1 h2 h3 h4 h5 h6
  rfl
/-- A map's data say what each event was last told to be. -/
structure LastD (D : DataW Unit) (b : Bk) : Prop where
  isM : Maps.IsMap D
  has : ∀ id : Int, Maps.has D (.int .i64 id) = decide (1 ≤ id ∧ id ≤ b.g)
  at_ : ∀ id : Int, 1 ≤ id → id ≤ b.g → ∃ e, LastIs b id e ∧ ∀ z, D.atKey (.int .i64 id) z = evL e
theorem last_zero : LastD (.map []) ⟨[], 0, 0⟩ := by
  refine ⟨Maps.isMap_empty, fun id => ?_, fun id h1 h2 => ?_⟩
  · have : ¬ (1 ≤ id ∧ id ≤ 0) := by omega
    simp [Maps.has, this]
  · simp only at h2; omega
theorem key_lit (a : Int) : WideAt.IsKeyLit (Lit.int .i64 a) := trivial
theorem lit_ne {a b : Int} (h : a ≠ b) : Lit.int .i64 a ≠ .int .i64 b := fun e => h (by injection e)
theorem last_post {D : DataW Unit} {b : Bk} (hi : Inv b) (h : LastD D b) (e : Ev) : LastD (D.put (.int .i64 (b.g + 1)) (evL { e with id := b.g + 1 })) (postB b e) := by
  have g0 := hi.g0
  refine ⟨h.isM.put _ _, fun id => ?_, fun id h1 h2 => ?_⟩
  · by_cases e1 : id = b.g + 1
    · subst e1
      rw [Maps.has_put_same h.isM (key_lit _)]
      have : (1 ≤ b.g + 1 ∧ b.g + 1 ≤ (postB b e).g) := ⟨by omega, Int.le_refl _⟩
      simp [this]
    · rw [Maps.has_put_other (lit_ne e1), h.has id]
      congr 1
      have e2 : (postB b e).g = b.g + 1 := rfl
      rw [e2]
      apply propext
      constructor <;> intro ⟨a1, a2⟩ <;> exact ⟨a1, by omega⟩
  · have e2 : (postB b e).g = b.g + 1 := rfl
    rw [e2] at h2
    by_cases e1 : id = b.g + 1
    · subst e1
      exact ⟨_, Or.inl ⟨(known_post b e _).2 (Or.inr rfl), rfl⟩, fun z => Maps.atKey_put_same h.isM (key_lit _) _ _⟩
    · obtain ⟨x, hx, hz⟩ := h.at_ id h1 (by omega)
      refine ⟨x, ?_, fun z => (Maps.atKey_put_other (lit_ne e1) _ _).trans (hz z)⟩
      rcases hx with ⟨hk, hxi⟩ | ⟨hx0, hno⟩
      · exact Or.inl ⟨(known_post b e x).2 (Or.inl hk), hxi⟩
      · refine Or.inr ⟨hx0, fun y hy => ?_⟩
        rcases (known_post b e y).1 hy with hy | hy
        · exact hno y hy
        · rw [hy]; exact fun h => e1 h.symm
theorem last_corr {D : DataW Unit} {b : Bk} (hi : Inv b) (h : LastD D b) {k : Nat} {id : Int} (hk : k < b.vs.length) (hx : kIx b.vs id = k) (e : Ev) : LastD (D.put (.int .i64 id) (evL { e with id := id })) (corrB b k id e) := by
  have hr := kIx_range hi hk hx
  have e2 : (corrB b k id e).g = b.g := rfl
  refine ⟨h.isM.put _ _, fun i => ?_, fun i h1 h2 => ?_⟩
  · rw [e2]
    by_cases e1 : i = id
    · subst e1
      rw [Maps.has_put_same h.isM (key_lit _)]
      simp [hr]
    · rw [Maps.has_put_other (lit_ne e1), h.has i]
  · rw [e2] at h2
    by_cases e1 : i = id
    · subst e1
      exact ⟨_, Or.inl ⟨(known_corr hi hk hx e _).2 (Or.inr rfl), rfl⟩, fun z => Maps.atKey_put_same h.isM (key_lit _) _ _⟩
    · obtain ⟨x, hx2, hz⟩ := h.at_ i h1 h2
      refine ⟨x, ?_, fun z => (Maps.atKey_put_other (lit_ne e1) _ _).trans (hz z)⟩
      rcases hx2 with ⟨hkn, hxi⟩ | ⟨hx0, hno⟩
      · exact Or.inl ⟨(known_corr hi hk hx e x).2 (Or.inl ⟨hkn, by rw [hxi]; exact e1⟩), hxi⟩
      · refine Or.inr ⟨hx0, fun y hy => ?_⟩
        rcases (known_corr hi hk hx e y).1 hy with hy | hy
        · exact hno y hy.1
        · rw [hy]; exact fun h => e1 h.symm
theorem last_void {D : DataW Unit} {b : Bk} (hi : Inv b) (h : LastD D b) {k : Nat} {id : Int} (hk : k < b.vs.length) (hx : kIx b.vs id = k) : LastD (D.put (.int .i64 id) (evL ev0)) (endB b k) := by
  have hr := kIx_range hi hk hx
  have e2 : (endB b k).g = b.g := rfl
  refine ⟨h.isM.put _ _, fun i => ?_, fun i h1 h2 => ?_⟩
  · rw [e2]
    by_cases e1 : i = id
    · subst e1
      rw [Maps.has_put_same h.isM (key_lit _)]
      simp [hr]
    · rw [Maps.has_put_other (lit_ne e1), h.has i]
  · rw [e2] at h2
    by_cases e1 : i = id
    · subst e1
      exact ⟨ev0, Or.inr ⟨rfl, fun y hy => ((known_void hi hk hx y).1 hy).2⟩, fun z => Maps.atKey_put_same h.isM (key_lit _) _ _⟩
    · obtain ⟨x, hx2, hz⟩ := h.at_ i h1 h2
      refine ⟨x, ?_, fun z => (Maps.atKey_put_other (lit_ne e1) _ _).trans (hz z)⟩
      rcases hx2 with ⟨hkn, hxi⟩ | ⟨hx0, hno⟩
      · exact Or.inl ⟨(known_void hi hk hx x).2 ⟨hkn, by rw [hxi]; exact e1⟩, hxi⟩
      · exact Or.inr ⟨hx0, fun y hy => hno y ((known_void hi hk hx y).1 hy).1⟩
/-- What has been gathered: of what is known just those whose numbers are no longer to come. -/
structure Gath (b : Bk) (left : Lit → Bool) (acc : List Ev) : Prop where
  mem : ∀ x, x ∈ acc ↔ x ∈ known b ∧ left (.int .i64 x.id) = false
  one : (acc.map (·.id)).Nodup
theorem gath_start {D : DataW Unit} {b : Bk} (hi : Inv b) (h : LastD D b) : Gath b (Maps.has D) [] := by
  refine ⟨fun x => ⟨fun hx => (by cases hx), fun ⟨hx, hl⟩ => ?_⟩, by simp⟩
  have := known_id hi x hx
  rw [h.has x.id] at hl
  simp at hl
  omega
theorem same_lit (a b : Int) : (Lit.int .i64 a).sameKey (.int .i64 b) = decide (a = b) := by
  by_cases h : a = b <;> simp [Lit.sameKey, h]
theorem gath_step {b : Bk} {left : Lit → Bool} {acc : List Ev} (hi : Inv b) (h : Gath b left acc) {id : Int} {e : Ev} (hl : left (.int .i64 id) = true) (he : LastIs b id e) :
    Gath b (fun z => left z && !z.sameKey (.int .i64 id)) (if 0 < e.id then acc ++ [e] else acc) := by
  have hnot : ∀ x ∈ acc, x.id ≠ id := fun x hx e1 => by
    have := ((h.mem x).1 hx).2
    rw [e1, hl] at this; cases this
  rcases he with ⟨hk, hid⟩ | ⟨he0, hno⟩
  · have hp : 0 < e.id := by have := known_id hi e hk; omega
    rw [if_pos hp]
    refine ⟨fun x => ?_, ?_⟩
    · rw [List.mem_append, List.mem_singleton, h.mem x, same_lit]
      constructor
      · rintro (⟨h1, h2⟩ | h1)
        · exact ⟨h1, by simp [h2]⟩
        · rw [h1]; exact ⟨hk, by simp [hid]⟩
      · rintro ⟨h1, h2⟩
        by_cases e1 : x.id = id
        · exact Or.inr (id_inj (known_nodup hi) x e h1 hk (by rw [e1, hid]))
        · refine Or.inl ⟨h1, ?_⟩
          simpa [e1] using h2
    · rw [List.map_append, List.nodup_append]
      refine ⟨h.one, by simp, fun i hi' j hj => ?_⟩
      obtain ⟨x, hx, rfl⟩ := List.mem_map.1 hi'
      have e1 : j = e.id := by simpa using hj
      rw [e1, hid]; exact hnot x hx
  · have hp : ¬ 0 < e.id := by rw [he0]; decide
    rw [if_neg hp]
    refine ⟨fun x => ?_, h.one⟩
    rw [h.mem x, same_lit]
    constructor
    · rintro ⟨h1, h2⟩; exact ⟨h1, by simp [h2]⟩
    · rintro ⟨h1, h2⟩
      refine ⟨h1, ?_⟩
      have e1 : x.id ≠ id := hno x h1
      simpa [e1] using h2
theorem gath_end {b : Bk} {left : Lit → Bool} {acc : List Ev} (hi : Inv b) (h : Gath b left acc) (hl : ∀ kl, left kl = false) : srt acc = srt (asOf b b.n) := by
  have hp : acc.Perm (known b) := by
    refine (List.perm_ext_iff_of_nodup ?_ ?_).2 fun x => ?_
    · exact List.Pairwise.of_map (fun e : Ev => e.id) (fun a b h e => h (by rw [e])) h.one
    · exact List.Pairwise.of_map (fun e : Ev => e.id) (fun a b h e => h (by rw [e])) (known_nodup hi)
    · rw [h.mem x]; exact ⟨fun h => h.1, fun h => ⟨h, hl _⟩⟩
  have e : asOf b b.n = known b := asOf_now hi
  rw [e]
  refine sorted_one (((srt_perm acc).trans hp).trans (srt_perm _).symm) (srt_sorted _) (srt_sorted _) ?_
  exact ((srt_perm acc).map _).symm.nodup h.one
end Go.Proofs.YtihkeblhidflpaaDoor
