/- The walk of the document's own As. -/
import Derived.Test.YtcfgacdcgljbaaaGreatDoorBnH
import Derived.Test.YtcfgacdcgljbaaaGreatDoorBnI
namespace Go.Proofs.YtcfgacdcgljbaaaGreatDoor
open Go.RowKit
/-- Of a number. -/
def isH (id : Int) (v : Vr) : Bool := decide (v.ev.id = id)
theorem map_filter_snoc (p : Vr → Bool) (vs : List Vr) (k : Nat) (hk : k < vs.length) : ((vs.take (k + 1)).filter p).map (·.ev) = ((vs.take k).filter p).map (·.ev) ++ if p vs[k] then [vs[k].ev] else [] := by
  rw [filter_snoc p vs k hk, List.map_append]
  cases p vs[k] <;> rfl
/-- The turn that the document means. -/
def tR (b : Bk) (t : Int) : Int := if 0 ≤ t ∧ t ≤ b.n then t else b.n
set_option maxRecDepth 20000 in
set_option maxHeartbeats 8000000 in
theorem ras_any {B pb : Nat} {sv : Value} {b : Bk} {w : World} (h : RAt w B pb sv b) (hl : b.vs.length ≤ 1000000) (t : Int) :
    Calls Tryz.prog 14 #[.pointer (some ⟨pb, 0, none⟩), .int .i64 t] w fun r w' => ∃ (v : Value) (l : List Ev), r = .returned v ∧ w'.ownsRow w.heap.size 44 7 v l.length (l.flatMap evC) ∧ l.Perm (asOf b (tR b t)) ∧ (l.Pairwise fun x y => ltOf cmpE y x = false) ∧ Below w.heap.size w w' := by
  obtain ⟨i0, hi, hz0, hz1, hz2⟩ := info_parts Tryz.infoEv
  have hc0 := h.c0
  have hc1 := h.c1
  have hown := h.own
  obtain ⟨u, hu⟩ : ∃ u, u = tR b t := ⟨_, rfl⟩
  rw [← hu]
  have key : (0 ≤ t ∧ t ≤ b.n ∧ u = t) ∨ ((t < 0 ∨ b.n < t) ∧ u = b.n) := by
    rw [hu, tR]
    by_cases h0 : 0 ≤ t ∧ t ≤ b.n
    · exact Or.inl ⟨h0.1, h0.2, by rw [if_pos h0]⟩
    · exact Or.inr ⟨by omega, by rw [if_neg h0]⟩
  have HA : Hid (asOf b u = (b.vs.filter (isAt u)).map (·.ev)) := rfl
  rw [HA.out]
  clear HA hu
  generalize b.vs = vs at hl hown
  generalize b.n = n at key hc1
  clear h
  have hdone : ∀ (w1 : World) (v : Value), Below w.heap.size w w1 → w1.ownsRow w.heap.size 44 7 v ((vs.filter (isAt u)).map (·.ev)).length (((vs.filter (isAt u)).map (·.ev)).flatMap evC) →
      Calls Tryz.prog 54 #[v] w1 fun r w' => ∃ (v : Value) (l : List Ev), r = .returned v ∧ w'.ownsRow w.heap.size 44 7 v l.length (l.flatMap evC) ∧ l.Perm ((vs.filter (isAt u)).map (·.ev)) ∧ (l.Pairwise fun x y => ltOf cmpE y x = false) ∧ Below w.heap.size w w' := fun w1 v hb ho => by
    refine (ordered_any ho (by rw [List.length_map]; exact Nat.le_trans (List.length_filter_le _ _) hl)).mono ?_
    rintro r w2 ⟨v2, l2, rfl, x1, x2, x3, x4⟩
    exact ⟨v2, l2, rfl, own_below x1 (Below.refl _ _) hb.size, x2, x3, hb.trans (x4.mono hb.size)⟩
  have HD : Hid _ := hdone
  clear hdone
  have HO0 : Hid (w.ownsRow B 143 9 sv vs.length (vs.flatMap vrC)) := hown
  clear hown
  have hform : (sv = .slice none 0 0 ∧ vs = []) ∨ ∃ g cap, sv = .slice (some ⟨g, 0, none⟩) vs.length cap ∧ g < w.heap.size := by
    rcases own_form HO0.out with ⟨hv, hn, _⟩ | ⟨g, cap, hv, _, hgl, _⟩
    · exact Or.inl ⟨hv, List.length_eq_zero_iff.1 hn⟩
    · exact Or.inr ⟨g, cap, hv, hgl⟩
  have hin : ∃ bv : Bool, Hid (Calls Tryz.prog 45 #[.int .i64 t, .int .i64 0, .int .i64 n] w fun e w' => e = .returned (.bool bv) ∧ w' = w) ∧ ((bv = true ∧ u = t) ∨ (bv = false ∧ u = n)) := by
    rcases key with ⟨h0, h1, h2⟩ | ⟨h0, h2⟩
    · exact ⟨true, in_yes t 0 n w h0 h1, Or.inl ⟨rfl, h2⟩⟩
    · exact ⟨false, in_no t 0 n w h0, Or.inr ⟨rfl, h2⟩⟩
  obtain ⟨bv, HIN, hbv⟩ := hin
  clear key
  rcases hform with ⟨rfl, rfl⟩ | ⟨g, cap, rfl, hgl⟩
  · go_enter Tryz.func14, Tryz.ntmps14
    rcases hbv with ⟨rfl, rfl⟩ | ⟨rfl, rfl⟩
    all_goals
      go_wp2_with fail
      refine HIN.out.mono ?_
      rintro e w1 ⟨rfl, hw1⟩
      subst w1
      go_wp2
      refine wp_loop_rounds 1 ?_
      rw [rounds_succ]
      go_wp2_with fail
      refine (HD.out w (.slice none 0 0) (Below.refl _ _) (World.ownsRow_nil _ _ _ _)).mono ?_
      rintro e w2 ⟨v2, l2, rfl, x1, x2, x3, x4⟩
      have HX : Hid _ := (⟨v2, l2, rfl, x1, x2, x3, x4⟩ : ∃ (v : Value) (l : List Ev), Ending.returned v2 = .returned v ∧ w2.ownsRow w.heap.size 44 7 v l.length (l.flatMap evC) ∧ l.Perm _ ∧ (l.Pairwise fun x y => ltOf cmpE y x = false) ∧ Below w.heap.size w w2)
      clear x1 x2 x3 x4
      go_wp2
      go_ret
      exact HX.out
  · go_enter Tryz.func14, Tryz.ntmps14
    rcases hbv with ⟨rfl, rfl⟩ | ⟨rfl, rfl⟩
    all_goals
      go_wp2_with fail
      refine HIN.out.mono ?_
      rintro e w1 ⟨rfl, hw1⟩
      subst w1
      go_wp2
      go_loopw [5, 24] (fun v i wr => ∃ k : Nat, k ≤ vs.length ∧ i = .int .i64 k ∧ Hid (wr.ownsRow w.heap.size 44 7 v (((vs.take k).filter (isAt u)).map (·.ev)).length ((((vs.take k).filter (isAt u)).map (·.ev)).flatMap evC)) ∧ Hid (Below w.heap.size w wr)) (fun _ i _ => vs.length - (intOf i).toNat)
      case atStart => exact ⟨0, Nat.zero_le _, rfl, World.ownsRow_nil _ _ _ _, Below.refl _ _⟩
      case round =>
        obtain ⟨k, hk, rfl, HO, HB⟩ := hrel
        by_cases hlt : k < vs.length
        · obtain ⟨x, hx⟩ : ∃ x, x = vs[k] := ⟨_, rfl⟩
          have hcw : ∀ j, j < 9 → wr.cell? ⟨g, k * 9 + j, none⟩ = (vrC x)[j]? := fun j hj => by
            rw [HB.out.cell (p := ⟨g, k * 9 + j, none⟩) hgl, (own_cell vrC_len HO0.out k j hlt hj).1, hx]
          have HF : Hid (((vs.take (k + 1)).filter (isAt u)).map (·.ev) = ((vs.take k).filter (isAt u)).map (·.ev) ++ if isAt u x then [x.ev] else []) := by rw [hx]; exact map_filter_snoc (isAt u) vs k hlt
          have hfl : (((vs.take k).filter (isAt u)).map (·.ev)).length ≤ 1000000 := by rw [List.length_map]; exact Nat.le_trans (List.length_filter_le _ _) (by rw [List.length_take]; omega)
          clear hx
          obtain ⟨fs, hfs⟩ : ∃ fs, fs = ((vs.take k).filter (isAt u)).map (·.ev) := ⟨_, rfl⟩
          rw [← hfs] at HO hfl HF
          clear hfs
          obtain ⟨⟨id2, item, kind, qty, price, ofI, day⟩, fr, tq⟩ := x
          have q0 := hcw 0 (by omega)
          have q1 := hcw 1 (by omega)
          have q2 := hcw 2 (by omega)
          have q3 := hcw 3 (by omega)
          have q4 := hcw 4 (by omega)
          have q5 := hcw 5 (by omega)
          have q6 := hcw 6 (by omega)
          have q7 := hcw 7 (by omega)
          have q8 := hcw 8 (by omega)
          simp only [vrC, List.getElem?_cons_zero, List.getElem?_cons_succ, Nat.add_zero] at q0 q1 q2 q3 q4 q5 q6 q7 q8
          clear hcw
          have hkz : (k : Int) < (vs.length : Int) := by omega
          have HB2 : Hid (∀ o, Below w.heap.size w (wr.alloc o)) := fun o => HB.out.alloc HB.out.size o
          by_cases h1 : fr ≤ u ∧ (tq = 0 ∨ u < tq)
          · have HF2 : Hid (((vs.take (k + 1)).filter (isAt u)).map (·.ev) = fs ++ [⟨id2, item, kind, qty, price, ofI, day⟩]) := by
              have := HF.out
              rw [if_pos (by simp [isAt, h1])] at this
              exact this
            obtain ⟨h1, h2⟩ := h1
            have h3 : tq = 0 ∨ (tq ≠ 0 ∧ (tq == 0) = false ∧ u < tq) := by
              by_cases h4 : tq = 0
              · exact Or.inl h4
              · exact Or.inr ⟨h4, by simpa using h4, by omega⟩
            clear h2
            rcases h3 with rfl | ⟨h3, h3b, h4⟩
            all_goals
              go_wp2_with (first
                | (at_builtin; refine wpList_append_own _ rfl _ _ 59 rfl w.heap.size 44 i0 evZ 7 64 Tryz.underlying59 hi hz0 hz1 hz2 rfl (by decide) _ _ _ rfl ((HO.out.alloc _).alloc _) ⟨wr.heap.size + 1, 0, none⟩ 1 1 (evC ⟨id2, item, kind, qty, price, ofI, day⟩) rfl rfl ?c1 ?c2 ?c3 ?c4 ?c5 ?_)
                | go_in)
              case c1 => exact fun _ _ h => h
              case c2 => exact evC_one _
              case c3 => unfold maxLen; omega
              case c4 => omega
              case c5 => have := HB.out.size; simp; omega
              · intro v' w2 hown2 hgr _
                have HB3 : Hid (Below w.heap.size w w2) := ((HB2.out _).alloc (HB2.out _).size _).grown hgr (by have := HB.out.size; simp; omega) (fun j hj => (HO.out.lt j hj).1)
                have HO3 : Hid (w2.ownsRow w.heap.size 44 7 v' (fs.length + 1) (fs.flatMap evC ++ evC ⟨id2, item, kind, qty, price, ofI, day⟩)) := hown2
                clear hown2 hgr
                go_wp2
                go_roundw
                case rel =>
                  refine ⟨k + 1, by omega, by go_num, ?_, HB3⟩
                  rw [HF2.out, flatMap_snoc, List.length_append]
                  exact HO3.out
                case measure => simp [intOf]; omega
          · have HF2 : Hid (((vs.take (k + 1)).filter (isAt u)).map (·.ev) = fs) := by
              have := HF.out
              rw [if_neg (by simp [isAt]; omega), List.append_nil] at this
              exact this
            have h3 : ¬ fr ≤ u ∨ (fr ≤ u ∧ tq ≠ 0 ∧ (tq == 0) = false ∧ ¬ u < tq) := by
              by_cases h4 : fr ≤ u
              · have h5 : tq ≠ 0 := fun e => h1 ⟨h4, Or.inl e⟩
                exact Or.inr ⟨h4, h5, by simpa using h5, fun e => h1 ⟨h4, Or.inr e⟩⟩
              · exact Or.inl h4
            clear h1
            rcases h3 with h3 | ⟨h3, h4, h4b, h5⟩
            all_goals
              go_wp2
              go_roundw
              case rel =>
                refine ⟨k + 1, by omega, by go_num, ?_, HB2.out _⟩
                rw [HF2.out]
                exact HO.out.alloc _
              case measure => simp [intOf]; omega
        · have hkz : ¬ (k : Int) < (vs.length : Int) := by omega
          have e : k = vs.length := by omega
          subst e
          have ho := HO.out
          rw [List.take_length] at ho
          have hc := HD.out wr u5 HB.out ho
          clear ho
          go_wp2_with fail
          refine hc.mono ?_
          rintro e w2 ⟨v2, l2, rfl, x1, x2, x3, x4⟩
          have HX : Hid _ := (⟨v2, l2, rfl, x1, x2, x3, x4⟩ : ∃ (v : Value) (l : List Ev), Ending.returned v2 = .returned v ∧ w2.ownsRow w.heap.size 44 7 v l.length (l.flatMap evC) ∧ l.Perm _ ∧ (l.Pairwise fun x y => ltOf cmpE y x = false) ∧ Below w.heap.size w w2)
          clear x1 x2 x3 x4 hc
          go_wp2
          go_ret
          exact HX.out
end Go.Proofs.YtcfgacdcgljbaaaGreatDoor
