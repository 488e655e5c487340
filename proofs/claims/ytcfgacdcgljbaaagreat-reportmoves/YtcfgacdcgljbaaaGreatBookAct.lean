/- What is done to a book: the walk of tallymankeep.act. -/
import Derived.Test.YtcfgacdcgljbaaaGreatBookCorr
namespace Go.Proofs.YtcfgacdcgljbaaaGreat
open Go.RowKit
/-- One deed. -/
structure Ac where
  what : Int
  id : Int
  e : Ev
  deriving Inhabited
def acC (x : Ac) : List Value := [.int .i64 x.what, .int .i64 x.id, .int .i64 x.e.id, .string x.e.item, .int .i64 x.e.kind, .int .i64 x.e.qty, .int .i64 x.e.price, .int .i64 x.e.ofI, .int .i64 x.e.day]
def acV (x : Ac) : Value := .agg #[.int .i64 x.what, .int .i64 x.id, .int .i64 x.e.id, .string x.e.item, .int .i64 x.e.kind, .int .i64 x.e.qty, .int .i64 x.e.price, .int .i64 x.e.ofI, .int .i64 x.e.day]
theorem acC_len (x : Ac) : (acC x).length = 9 := rfl
/-- It is done, and the book is that one. -/
def StepA (b : Bk) (x : Ac) (b' : Bk) : Prop :=
  (x.what = 0 ∧ Rt x.e ∧ b.vs.length < 120 ∧ b' = postB b x.e) ∨ (x.what = 1 ∧ Rt x.e ∧ b.vs.length < 120 ∧ ∃ k : Nat, k < b.vs.length ∧ kIx b.vs x.id = k ∧ b' = corrB b k x.id x.e) ∨
  (x.what = 2 ∧ ∃ k : Nat, k < b.vs.length ∧ kIx b.vs x.id = k ∧ b' = endB b k)
def DoesA (b : Bk) (x : Ac) (c : Int) (b' : Bk) : Prop := (c ≠ 0 ∧ b' = b) ∨ (c = 0 ∧ StepA b x b')
/-- Sizes and counts that a book keeps within. -/
structure BkOk (b : Bk) : Prop where
  len : b.vs.length ≤ 120
  n0 : 0 ≤ b.n
  n1 : b.n ≤ 1000000
  g0 : 0 ≤ b.g
  g1 : b.g ≤ 1000000
theorem kIx_form (vs : List Vr) (id : Int) : kIx vs id = -1 ∨ ∃ k : Nat, k < vs.length ∧ kIx vs id = k := by
  rcases kIx_spec vs id with ⟨h, _⟩ | ⟨k, hk, h, _⟩
  · exact Or.inl h
  · exact Or.inr ⟨k, hk, h⟩
theorem BookAt.some {w : World} {B pb : Nat} {sv : Value} {b : Bk} (h : BookAt w B pb sv b) (hn : 0 < b.vs.length) : ∃ g cap, sv = .slice (some ⟨g, 0, none⟩) b.vs.length cap := by
  rcases own_form h.own with ⟨_, h0, _⟩ | ⟨g, cap, e, _⟩
  · omega
  · exact ⟨g, cap, e⟩
/-- Post, Correct, Void: what each tells, and leaves. -/
theorem post_does {B pb : Nat} {sv : Value} {b : Bk} {w : World} (h : BookAt w B pb sv b) (ho : BkOk b) (e : Ev) (he : EvW e) :
    Calls Tryz.prog 14 #[.pointer (some ⟨pb, 0, none⟩), evV e] w fun r w' => ∃ (m c : Int) (b' : Bk) (sv' : Value), r = .returned (.tuple #[.int .i64 m, errV c]) ∧ ((m = 0 ∧ c ≠ 0 ∧ TakesE b e c ∧ b' = b) ∨ (m = b.g + 1 ∧ c = 0 ∧ Rt e ∧ b.vs.length < 120 ∧ b' = postB b e)) ∧ BookAt w' B pb sv' b' ∧ Turned w w' pb sv ∧ Fresh w sv sv' := by
  by_cases hy : Rt e ∧ b.vs.length < 120
  · refine (post_yes h ho.n0 ho.n1 ho.g0 ho.g1 e he hy.1 hy.2).mono ?_
    rintro r w' ⟨rfl, sv', h1, h2, h3⟩
    exact ⟨_, 0, _, sv', rfl, Or.inr ⟨rfl, rfl, hy.1, hy.2, rfl⟩, h1, h2, h3⟩
  · refine (post_no h (by have := ho.len; omega) e he hy).mono ?_
    rintro r w' ⟨k, hk, hk0, rfl, hb⟩
    exact ⟨0, k, b, sv, rfl, Or.inl ⟨rfl, hk0, hk, rfl⟩, h.below hb, .of_below hb, Fresh.refl _ _⟩
theorem corr_does {B pb : Nat} {sv : Value} {b : Bk} {w : World} (h : BookAt w B pb sv b) (ho : BkOk b) (id : Int) (e : Ev) (he : EvW e) :
    Calls Tryz.prog 34 #[.pointer (some ⟨pb, 0, none⟩), .int .i64 id, evV e] w fun r w' => ∃ (c : Int) (b' : Bk) (sv' : Value), r = .returned (errV c) ∧
      ((c = 7 ∧ kIx b.vs id = -1 ∧ b' = b) ∨ (c ≠ 0 ∧ TakesE b e c ∧ (∃ k : Nat, kIx b.vs id = k) ∧ b' = b) ∨ (c = 0 ∧ Rt e ∧ b.vs.length < 120 ∧ ∃ k : Nat, k < b.vs.length ∧ kIx b.vs id = k ∧ b' = corrB b k id e)) ∧ BookAt w' B pb sv' b' ∧ Turned w w' pb sv ∧ Fresh w sv sv' := by
  have hl : b.vs.length ≤ 1000000 := by have := ho.len; omega
  rcases kIx_form b.vs id with hk | ⟨k, hkl, hk⟩
  · refine (corr_miss h hl id e hk).mono ?_
    rintro r w' ⟨rfl, hb⟩
    exact ⟨7, b, sv, rfl, Or.inl ⟨rfl, hk, rfl⟩, h.below hb, .of_below hb, Fresh.refl _ _⟩
  · by_cases hy : Rt e ∧ b.vs.length < 120
    · obtain ⟨g, cap, hsv⟩ := h.some (by omega)
      subst hsv
      refine (corr_yes h ho.n0 ho.n1 id e he k hkl hk hy.1 hy.2).mono ?_
      rintro r w' ⟨rfl, sv', h1, h2, h3⟩
      exact ⟨0, _, sv', rfl, Or.inr (Or.inr ⟨rfl, hy.1, hy.2, k, hkl, hk, rfl⟩), h1, h2, h3⟩
    · refine (corr_no h hl id e he k hk hy).mono ?_
      rintro r w' ⟨c, hc, hc0, rfl, hb⟩
      exact ⟨c, b, sv, rfl, Or.inr (Or.inl ⟨hc0, hc, ⟨k, hk⟩, rfl⟩), h.below hb, .of_below hb, Fresh.refl _ _⟩
theorem void_does {B pb : Nat} {sv : Value} {b : Bk} {w : World} (h : BookAt w B pb sv b) (ho : BkOk b) (id : Int) :
    Calls Tryz.prog 35 #[.pointer (some ⟨pb, 0, none⟩), .int .i64 id] w fun r w' => ∃ (c : Int) (b' : Bk) (sv' : Value), r = .returned (errV c) ∧
      ((c = 7 ∧ kIx b.vs id = -1 ∧ b' = b) ∨ (c = 0 ∧ ∃ k : Nat, k < b.vs.length ∧ kIx b.vs id = k ∧ b' = endB b k)) ∧ BookAt w' B pb sv' b' ∧ Turned w w' pb sv ∧ Fresh w sv sv' := by
  have hl : b.vs.length ≤ 1000000 := by have := ho.len; omega
  rcases kIx_form b.vs id with hk | ⟨k, hkl, hk⟩
  · refine (void_no h hl id hk).mono ?_
    rintro r w' ⟨rfl, hb⟩
    exact ⟨7, b, sv, rfl, Or.inl ⟨rfl, hk, rfl⟩, h.below hb, .of_below hb, Fresh.refl _ _⟩
  · obtain ⟨g, cap, hsv⟩ := h.some (by omega)
    subst hsv
    refine (void_yes h hl ho.n0 ho.n1 id k hkl hk).mono ?_
    rintro r w' ⟨rfl, h1, h2⟩
    exact ⟨0, _, _, rfl, Or.inr ⟨rfl, k, hkl, hk, rfl⟩, h1, h2, Fresh.refl _ _⟩
end Go.Proofs.YtcfgacdcgljbaaaGreat
