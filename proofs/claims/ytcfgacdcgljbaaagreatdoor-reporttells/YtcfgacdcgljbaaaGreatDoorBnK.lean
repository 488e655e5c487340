/- Two books side by side: the program's and the document's own. What each deed does to both. What lies beside two books stays as it is. No walk. -/
import Derived.Test.YtcfgacdcgljbaaaGreatDoorBnH
import Derived.Test.YtcfgacdcgljbaaaGreatDoorRefBookLook
import Derived.Test.YtcfgacdcgljbaaaGreatDoorMixK
import Derived.Test.YtcfgacdcgljbaaaGreatDoorBnJ
namespace Go.Proofs.YtcfgacdcgljbaaaGreatDoor
open Go.RowKit
theorem own_of_block {w w' : World} {B : Nat} {T : TypeId} {m n : Nat} {v : Value} {xs : List Value} (h : w.ownsRow B T m v n xs) (hb : ∀ k, v.ownBlock = some k → w'.heap[k]? = w.heap[k]?) : w'.ownsRow B T m v n xs := by
  refine ⟨h.1, ?_⟩
  rcases h.2 with hn | ⟨g, cap, cur, hv, hBg, hg, rest⟩
  · exact Or.inl hn
  · refine Or.inr ⟨g, cap, cur, hv, hBg, ?_, rest⟩
    rw [hb g (by rw [hv]; rfl)]; exact hg
/-- Two books, apart from one another. -/
structure Two (w : World) (B p1 : Nat) (v1 : Value) (b1 : Bk) (p2 : Nat) (v2 : Value) (b2 : Bk) : Prop where
  book : BookAt w B p1 v1 b1
  ref : RAt w B p2 v2 b2
  ne : p1 ≠ p2
  n1 : v1.ownBlock ≠ some p2
  n2 : v2.ownBlock ≠ some p1
  n3 : ∀ k, v1.ownBlock = some k → v2.ownBlock ≠ some k
theorem Two.below {w w' : World} {B p1 p2 : Nat} {v1 v2 : Value} {b1 b2 : Bk} (h : Two w B p1 v1 b1 p2 v2 b2) (hb : Below w.heap.size w w') : Two w' B p1 v1 b1 p2 v2 b2 := ⟨h.book.below hb, h.ref.below hb, h.ne, h.n1, h.n2, h.n3⟩
theorem Two.step_ref {w w' : World} {B p1 p2 : Nat} {v1 v2 v2' : Value} {b1 b2 b2' : Bk} (h : Two w B p1 v1 b1 p2 v2 b2) (hr : RAt w' B p2 v2' b2') (ht : Turned w w' p2 v2) (hf : Fresh w v2 v2') : Two w' B p1 v1 b1 p2 v2' b2' := by
  have e : w'.heap[p1]? = w.heap[p1]? := ht.block p1 h.book.lt h.ne h.n2
  have eo : ∀ k, v1.ownBlock = some k → w'.heap[k]? = w.heap[k]? := fun k hk => ht.block k (h.book.block k hk).2 (fun e => h.n1 (by rw [hk, e])) (h.n3 k hk)
  refine ⟨⟨(World.cell?_of_block (a := ⟨p1, 0, none⟩) e).trans h.book.c0, (World.cell?_of_block (a := ⟨p1, 1, none⟩) e).trans h.book.c1, (World.cell?_of_block (a := ⟨p1, 2, none⟩) e).trans h.book.c2, (World.frozen?_of_block (a := ⟨p1, 0, none⟩) e).trans h.book.f0, (World.frozen?_of_block (a := ⟨p1, 1, none⟩) e).trans h.book.f1, (World.frozen?_of_block (a := ⟨p1, 2, none⟩) e).trans h.book.f2, own_of_block h.book.own eo, h.book.ne, h.book.ge⟩, hr, h.ne, h.n1, fun e => ?_, fun k hk e => ?_⟩
  · rcases hf p1 e with x | x
    · exact h.n2 x
    · have := h.book.lt; omega
  · rcases hf k e with x | x
    · exact h.n3 k hk x
    · have := (h.book.block k hk).2; omega
theorem Two.step_book {w w' : World} {B p1 p2 : Nat} {v1 v1' v2 : Value} {b1 b1' b2 : Bk} (h : Two w B p1 v1 b1 p2 v2 b2) (hr : BookAt w' B p1 v1' b1') (ht : Turned w w' p1 v1) (hf : Fresh w v1 v1') : Two w' B p1 v1' b1' p2 v2 b2 := by
  have e : w'.heap[p2]? = w.heap[p2]? := ht.block p2 h.ref.lt (fun e => h.ne e.symm) h.n1
  have eo : ∀ k, v2.ownBlock = some k → w'.heap[k]? = w.heap[k]? := fun k hk => ht.block k (h.ref.block k hk).2 (fun e => h.n2 (by rw [hk, e])) (fun x => h.n3 k x hk)
  refine ⟨hr, ⟨(World.cell?_of_block (a := ⟨p2, 0, none⟩) e).trans h.ref.c0, (World.cell?_of_block (a := ⟨p2, 1, none⟩) e).trans h.ref.c1, (World.cell?_of_block (a := ⟨p2, 2, none⟩) e).trans h.ref.c2, (World.frozen?_of_block (a := ⟨p2, 0, none⟩) e).trans h.ref.f0, (World.frozen?_of_block (a := ⟨p2, 1, none⟩) e).trans h.ref.f1, (World.frozen?_of_block (a := ⟨p2, 2, none⟩) e).trans h.ref.f2, own_of_block h.ref.own eo, h.ref.ne, h.ref.ge⟩, h.ne, fun e => ?_, h.n2, fun k e hk => ?_⟩
  · rcases hf p2 e with x | x
    · exact h.n1 x
    · have := h.ref.lt; omega
  · rcases hf k e with x | x
    · exact h.n3 k x hk
    · have := (h.ref.block k hk).2; omega
/-- What Post, Correct, Void tell, and leave. -/
def PostD (b : Bk) (e : Ev) (m c : Int) (b' : Bk) : Prop := (m = 0 ∧ c ≠ 0 ∧ TakesE b e c ∧ b' = b) ∨ (m = b.g + 1 ∧ c = 0 ∧ Rt e ∧ b.vs.length < 120 ∧ b' = postB b e)
def CorrD (b : Bk) (id : Int) (e : Ev) (c : Int) (b' : Bk) : Prop := (c = 7 ∧ kIx b.vs id = -1 ∧ b' = b) ∨ (c ≠ 0 ∧ TakesE b e c ∧ (∃ k : Nat, kIx b.vs id = k) ∧ b' = b) ∨ (c = 0 ∧ Rt e ∧ b.vs.length < 120 ∧ ∃ k : Nat, k < b.vs.length ∧ kIx b.vs id = k ∧ b' = corrB b k id e)
def VoidD (b : Bk) (id : Int) (c : Int) (b' : Bk) : Prop := (c = 7 ∧ kIx b.vs id = -1 ∧ b' = b) ∨ (c = 0 ∧ ∃ k : Nat, k < b.vs.length ∧ kIx b.vs id = k ∧ b' = endB b k)
theorem takes_det {b : Bk} {e : Ev} {c c' : Int} (h : TakesE b e c) (h' : TakesE b e c') : c = c' := by
  rcases h with ⟨h1, h2⟩ | ⟨h1, h2, h3⟩ | ⟨h1, h2, h3⟩ <;> rcases h' with ⟨x1, x2⟩ | ⟨x1, x2, x3⟩ | ⟨x1, x2, x3⟩ <;> first | omega | exact absurd h2 x2 | exact absurd x2 h2
theorem takes_no {b : Bk} {e : Ev} {c : Int} (h : TakesE b e c) (hc : c ≠ 0) (hr : Rt e) (hl : b.vs.length < 120) : False := by
  rcases h with ⟨h1, h2⟩ | ⟨h1, h2, h3⟩ | ⟨h1, h2, h3⟩
  · exact h2 hr
  · omega
  · exact hc h1
theorem PostD.det {b b1 b2 : Bk} {e : Ev} {m m' c c' : Int} (h : PostD b e m c b1) (h' : PostD b e m' c' b2) : m = m' ∧ c = c' ∧ b1 = b2 := by
  rcases h with ⟨h1, h2, h3, h4⟩ | ⟨h1, h2, h3, h4, h5⟩ <;> rcases h' with ⟨x1, x2, x3, x4⟩ | ⟨x1, x2, x3, x4, x5⟩
  · exact ⟨by omega, takes_det h3 x3, by rw [h4, x4]⟩
  · exact (takes_no h3 h2 x3 x4).elim
  · exact (takes_no x3 x2 h3 h4).elim
  · exact ⟨by omega, by omega, by rw [h5, x5]⟩
theorem CorrD.det {b b1 b2 : Bk} {id : Int} {e : Ev} {c c' : Int} (h : CorrD b id e c b1) (h' : CorrD b id e c' b2) : c = c' ∧ b1 = b2 := by
  rcases h with ⟨h1, h2, h3⟩ | ⟨h1, h2, ⟨k, hk⟩, h4⟩ | ⟨h1, h2, h3, k, hk1, hk, h4⟩ <;> rcases h' with ⟨x1, x2, x3⟩ | ⟨x1, x2, ⟨j, hj⟩, x4⟩ | ⟨x1, x2, x3, j, hj1, hj, x4⟩
  · exact ⟨by omega, by rw [h3, x3]⟩
  · omega
  · omega
  · omega
  · exact ⟨takes_det h2 x2, by rw [h4, x4]⟩
  · exact (takes_no h2 h1 x2 x3).elim
  · omega
  · exact (takes_no x2 x1 h2 h3).elim
  · have : k = j := by omega
    exact ⟨by omega, by rw [h4, x4, this]⟩
theorem VoidD.det {b b1 b2 : Bk} {id : Int} {c c' : Int} (h : VoidD b id c b1) (h' : VoidD b id c' b2) : c = c' ∧ b1 = b2 := by
  rcases h with ⟨h1, h2, h3⟩ | ⟨h1, k, hk1, hk, h4⟩ <;> rcases h' with ⟨x1, x2, x3⟩ | ⟨x1, j, hj1, hj, x4⟩
  · exact ⟨by omega, by rw [h3, x3]⟩
  · omega
  · omega
  · have : k = j := by omega
    exact ⟨by omega, by rw [h4, x4, this]⟩
theorem rpost_does {B pb : Nat} {sv : Value} {b : Bk} {w : World} (h : RAt w B pb sv b) (ho : BkOk b) (e : Ev) (he : EvW e) :
    Calls Tryz.prog 39 #[.pointer (some ⟨pb, 0, none⟩), evV e] w fun r w' => ∃ (m c : Int) (b' : Bk) (sv' : Value), r = .returned (.tuple #[.int .i64 m, .int .i64 c]) ∧ PostD b e m c b' ∧ RAt w' B pb sv' b' ∧ Turned w w' pb sv ∧ Fresh w sv sv' := by
  by_cases hr : Rt e
  · by_cases hl : b.vs.length < 120
    · refine (rpost_yes h ho.n0 ho.n1 ho.g0 ho.g1 e he hr hl).mono ?_
      rintro r w' ⟨rfl, sv', h1, h2, h3⟩
      exact ⟨_, 0, _, sv', rfl, Or.inr ⟨rfl, rfl, hr, hl, rfl⟩, h1, h2, h3⟩
    · refine (rpost_full h e he hr (by omega)).mono ?_
      rintro r w' ⟨rfl, hb⟩
      exact ⟨0, 12, b, sv, rfl, Or.inl ⟨rfl, by decide, Or.inr (Or.inl ⟨rfl, hr, by omega⟩), rfl⟩, h.below hb, .of_below hb, Fresh.refl _ _⟩
  · refine (rpost_bad h e he hr).mono ?_
    rintro r w' ⟨rfl, hb⟩
    exact ⟨0, 1, b, sv, rfl, Or.inl ⟨rfl, by decide, Or.inl ⟨rfl, hr⟩, rfl⟩, h.below hb, .of_below hb, Fresh.refl _ _⟩
theorem rcorr_does {B pb : Nat} {sv : Value} {b : Bk} {w : World} (h : RAt w B pb sv b) (ho : BkOk b) (id : Int) (e : Ev) (he : EvW e) :
    Calls Tryz.prog 42 #[.pointer (some ⟨pb, 0, none⟩), .int .i64 id, evV e] w fun r w' => ∃ (c : Int) (b' : Bk) (sv' : Value), r = .returned (.int .i64 c) ∧ CorrD b id e c b' ∧ RAt w' B pb sv' b' ∧ Turned w w' pb sv ∧ Fresh w sv sv' := by
  have hl : b.vs.length ≤ 1000000 := by have := ho.len; omega
  rcases kIx_form b.vs id with hk | ⟨k, hkl, hk⟩
  · refine (rcorr_miss h hl id e hk).mono ?_
    rintro r w' ⟨rfl, hb⟩
    exact ⟨7, b, sv, rfl, Or.inl ⟨rfl, hk, rfl⟩, h.below hb, .of_below hb, Fresh.refl _ _⟩
  · by_cases hr : Rt e
    · by_cases hf : b.vs.length < 120
      · obtain ⟨g, cap, rfl⟩ := h.some (by omega)
        refine (rcorr_yes h ho.n0 ho.n1 id e he k hkl hk hr hf).mono ?_
        rintro r w' ⟨rfl, sv', h1, h2, h3⟩
        exact ⟨0, _, sv', rfl, Or.inr (Or.inr ⟨rfl, hr, hf, k, hkl, hk, rfl⟩), h1, h2, h3⟩
      · refine (rcorr_full h hl id e he k hk hr (by omega)).mono ?_
        rintro r w' ⟨rfl, hb⟩
        exact ⟨12, b, sv, rfl, Or.inr (Or.inl ⟨by decide, Or.inr (Or.inl ⟨rfl, hr, by omega⟩), ⟨k, hk⟩, rfl⟩), h.below hb, .of_below hb, Fresh.refl _ _⟩
    · refine (rcorr_bad h hl id e he k hk hr).mono ?_
      rintro r w' ⟨rfl, hb⟩
      exact ⟨1, b, sv, rfl, Or.inr (Or.inl ⟨by decide, Or.inl ⟨rfl, hr⟩, ⟨k, hk⟩, rfl⟩), h.below hb, .of_below hb, Fresh.refl _ _⟩
theorem rvoid_does {B pb : Nat} {sv : Value} {b : Bk} {w : World} (h : RAt w B pb sv b) (ho : BkOk b) (id : Int) :
    Calls Tryz.prog 44 #[.pointer (some ⟨pb, 0, none⟩), .int .i64 id] w fun r w' => ∃ (c : Int) (b' : Bk) (sv' : Value), r = .returned (.int .i64 c) ∧ VoidD b id c b' ∧ RAt w' B pb sv' b' ∧ Turned w w' pb sv ∧ Fresh w sv sv' := by
  have hl : b.vs.length ≤ 1000000 := by have := ho.len; omega
  rcases kIx_form b.vs id with hk | ⟨k, hkl, hk⟩
  · refine (rvoid_no h hl id hk).mono ?_
    rintro r w' ⟨rfl, hb⟩
    exact ⟨7, b, sv, rfl, Or.inl ⟨rfl, hk, rfl⟩, h.below hb, .of_below hb, Fresh.refl _ _⟩
  · obtain ⟨g, cap, rfl⟩ := h.some (by omega)
    refine (rvoid_yes h hl ho.n0 ho.n1 id k hkl hk).mono ?_
    rintro r w' ⟨rfl, h1, h2⟩
    exact ⟨0, _, _, rfl, Or.inr ⟨rfl, k, hkl, hk, rfl⟩, h1, h2, Fresh.refl _ _⟩
/-- An error and a number that tell the same. -/
theorem bare_any (c : Int) (w : World) (hg : ErrType w) : Calls Tryz.prog 10 #[errV c, .int .i64 c] w fun e w' => e = .returned (.bool true) ∧ Below w.heap.size w w' := by
  unfold errV
  by_cases h : c = 0
  · subst h; rw [if_pos rfl]; exact bare_nil w
  · rw [if_neg h]; exact bare_errno c w hg
end Go.Proofs.YtcfgacdcgljbaaaGreatDoor
namespace Go.Proofs.YtcfgacdcgljbaaaGreatDoor
open Go.RowKit
/-- Blocks that are no book's stay, and become no book's. -/
structure Guest (w w' : World) (p1 p2 : Nat) (v1 v2 v1' v2' : Value) : Prop where
  size : w.heap.size ≤ w'.heap.size
  keep : ∀ k, k < w.heap.size → k ≠ p1 → k ≠ p2 → v1.ownBlock ≠ some k → v2.ownBlock ≠ some k → w'.heap[k]? = w.heap[k]? ∧ v1'.ownBlock ≠ some k ∧ v2'.ownBlock ≠ some k
section
variable {w w' w'' : World} {p1 p2 : Nat} {v1 v2 v1' v2' v1'' v2'' : Value}
theorem Guest.of_below (h : Below w.heap.size w w') : Guest w w' p1 p2 v1 v2 v1 v2 := ⟨h.size, fun k hk _ _ h1 h2 => ⟨h.block k hk, h1, h2⟩⟩
theorem Guest.ref (t : Turned w w' p2 v2) (f : Fresh w v2 v2') : Guest w w' p1 p2 v1 v2 v1 v2' := ⟨t.size, fun k hk _ n2 h1 h2 => ⟨t.block k hk n2 h2, h1, fun e => by
  rcases f k e with x | x
  · exact h2 x
  · omega⟩⟩
theorem Guest.book (t : Turned w w' p1 v1) (f : Fresh w v1 v1') : Guest w w' p1 p2 v1 v2 v1' v2 := ⟨t.size, fun k hk n1 _ h1 h2 => ⟨t.block k hk n1 h1, fun e => by
  rcases f k e with x | x
  · exact h1 x
  · omega, h2⟩⟩
theorem Guest.trans (h : Guest w w' p1 p2 v1 v2 v1' v2') (h' : Guest w' w'' p1 p2 v1' v2' v1'' v2'') : Guest w w'' p1 p2 v1 v2 v1'' v2'' :=
  ⟨Nat.le_trans h.size h'.size, fun k hk n1 n2 h1 h2 => by
    obtain ⟨e, a, b⟩ := h.keep k hk n1 n2 h1 h2
    obtain ⟨e', a', b'⟩ := h'.keep k (Nat.lt_of_lt_of_le hk h.size) n1 n2 a b
    exact ⟨e'.trans e, a', b'⟩⟩
end
end Go.Proofs.YtcfgacdcgljbaaaGreatDoor
