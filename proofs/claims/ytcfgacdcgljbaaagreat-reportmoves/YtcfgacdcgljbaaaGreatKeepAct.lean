/- The walks of tallymankeep.act and tallymankeep.small. -/
import Derived.Test.YtcfgacdcgljbaaaGreatBookAct
namespace Go.Proofs.YtcfgacdcgljbaaaGreat
open Go.RowKit
theorem errV_form (c : Int) : (c = 0 ∧ errV c = .nilIface) ∨ (c ≠ 0 ∧ errV c = .iface 89 (.int .i64 c)) := by
  by_cases h : c = 0
  · exact Or.inl ⟨h, by rw [errV, if_pos h]⟩
  · exact Or.inr ⟨h, by rw [errV, if_neg h]⟩
/-- An event in a row of cells, from some cell on. -/
theorem act_cells {w : World} (x : Ac) (T : TypeId) : ∀ j, (w.alloc (.cells #[.int .i64 x.what, .int .i64 x.id, .int .i64 x.e.id, .string x.e.item, .int .i64 x.e.kind, .int .i64 x.e.qty, .int .i64 x.e.price, .int .i64 x.e.ofI, .int .i64 x.e.day] T)).cell? ⟨w.heap.size, j, none⟩ = (acC x)[j]? := fun j => by
  rw [World.cell?_alloc_at _ _ _ _ rfl]; simp [acC]
set_option maxRecDepth 20000 in
set_option maxHeartbeats 4000000 in
theorem act_any {B pb : Nat} {sv : Value} {b : Bk} {w : World} (h : BookAt w B pb sv b) (ho : BkOk b) (x : Ac) (he : EvW x.e) :
    Calls Tryz.prog 17 #[.pointer (some ⟨pb, 0, none⟩), acV x] w fun r w' => ∃ (c : Int) (b' : Bk) (sv' : Value), r = .returned (errV c) ∧ DoesA b x c b' ∧ BookAt w' B pb sv' b' ∧ Turned w w' pb sv ∧ Fresh w sv sv' := by
  obtain ⟨what, id, ⟨id0, item, kind, qty, price, ofI, day⟩⟩ := x
  have HD : Hid (∀ c b', DoesA b ⟨what, id, ⟨id0, item, kind, qty, price, ofI, day⟩⟩ c b' ↔ DoesA b ⟨what, id, ⟨id0, item, kind, qty, price, ofI, day⟩⟩ c b') := fun _ _ => Iff.rfl
  obtain ⟨W, hW⟩ : ∃ W, W = w.alloc (.cells #[.int .i64 what, .int .i64 id, .int .i64 id0, .string item, .int .i64 kind, .int .i64 qty, .int .i64 price, .int .i64 ofI, .int .i64 day] 48) := ⟨_, rfl⟩
  have hBW : Below w.heap.size w W := by rw [hW]; exact (Below.refl _ _).alloc (Nat.le_refl _) _
  have H1 := h.below hBW
  have T1 : Turned w W pb sv := .of_below hBW
  have hp := post_does H1 ho ⟨id0, item, kind, qty, price, ofI, day⟩ he
  have hc := corr_does H1 ho id ⟨id0, item, kind, qty, price, ofI, day⟩ he
  have hv := void_does H1 ho id
  unfold evV at hp hc
  unfold acV
  simp only at hp hc ⊢
  by_cases h0 : what = 0
  · subst h0
    go_enter Tryz.func17, Tryz.ntmps17
    go_wp2_with fail
    rw [← hW]
    refine hp.mono ?_
    rintro r w1 ⟨m, c, b', sv', rfl, hd, H2, T2, F2⟩
    have HDD : Hid (DoesA b ⟨0, id, ⟨id0, item, kind, qty, price, ofI, day⟩⟩ c b') := by
      rcases hd with ⟨_, hc0, _, hb'⟩ | ⟨_, hc0, h1, h2, h3⟩
      · exact Or.inl ⟨hc0, hb'⟩
      · exact Or.inr ⟨hc0, Or.inl ⟨rfl, h1, h2, h3⟩⟩
    have T3 := T1.trans T2 (Fresh.refl _ _)
    have F3 := F2.grow T1.size
    clear hd hp hc hv hW
    rcases errV_form c with ⟨hc0, hev⟩ | ⟨hc0, hev⟩
    all_goals
      have HE : Hid (errV c = _) := hev
      rw [hev]
      clear hev
      go_wp2
      go_ret
      exact ⟨c, b', sv', by rw [HE.out]; rfl, HDD.out, H2, T3, F3⟩
  · by_cases h1 : what = 1
    · subst h1
      go_enter Tryz.func17, Tryz.ntmps17
      go_wp2_with fail
      rw [← hW]
      refine hc.mono ?_
      rintro r w1 ⟨c, b', sv', rfl, hd, H2, T2, F2⟩
      have HDD : Hid (DoesA b ⟨1, id, ⟨id0, item, kind, qty, price, ofI, day⟩⟩ c b') := by
        rcases hd with ⟨hc0, _, hb'⟩ | ⟨hc0, _, _, hb'⟩ | ⟨hc0, h1, h2, h3⟩
        · exact Or.inl ⟨by omega, hb'⟩
        · exact Or.inl ⟨hc0, hb'⟩
        · exact Or.inr ⟨hc0, Or.inr (Or.inl ⟨rfl, h1, h2, h3⟩)⟩
      have T3 := T1.trans T2 (Fresh.refl _ _)
      have F3 := F2.grow T1.size
      clear hd hp hc hv hW
      rcases errV_form c with ⟨hc0, hev⟩ | ⟨hc0, hev⟩
      all_goals
        have HE : Hid (errV c = _) := hev
        rw [hev]
        clear hev
        go_wp2
        go_ret
        exact ⟨c, b', sv', by rw [HE.out]; rfl, HDD.out, H2, T3, F3⟩
    · by_cases h2 : what = 2
      · subst h2
        go_enter Tryz.func17, Tryz.ntmps17
        go_wp2_with fail
        rw [← hW]
        refine hv.mono ?_
        rintro r w1 ⟨c, b', sv', rfl, hd, H2, T2, F2⟩
        have HDD : Hid (DoesA b ⟨2, id, ⟨id0, item, kind, qty, price, ofI, day⟩⟩ c b') := by
          rcases hd with ⟨hc0, _, hb'⟩ | ⟨hc0, h3⟩
          · exact Or.inl ⟨by omega, hb'⟩
          · exact Or.inr ⟨hc0, Or.inr (Or.inr ⟨rfl, h3⟩)⟩
        have T3 := T1.trans T2 (Fresh.refl _ _)
        have F3 := F2.grow T1.size
        clear hd hp hc hv hW
        rcases errV_form c with ⟨hc0, hev⟩ | ⟨hc0, hev⟩
        all_goals
          have HE : Hid (errV c = _) := hev
          rw [hev]
          clear hev
          go_wp2
          go_ret
          exact ⟨c, b', sv', by rw [HE.out]; rfl, HDD.out, H2, T3, F3⟩
      · clear hp hc hv
        have HDD : Hid (DoesA b ⟨what, id, ⟨id0, item, kind, qty, price, ofI, day⟩⟩ 1 b) := Or.inl ⟨by omega, rfl⟩
        have d0 : decide (what = 0) = false := by simpa using h0
        have d1 : decide (what = 1) = false := by simpa using h1
        have d2 : decide (what = 2) = false := by simpa using h2
        go_enter Tryz.func17, Tryz.ntmps17
        go_wp2
        go_ret
        rw [← hW]
        exact ⟨1, rfl, b, HDD.out, sv, H1, T1, Fresh.refl _ _⟩
end Go.Proofs.YtcfgacdcgljbaaaGreat
