/- The walk of (*cost.stock).take. What the document's own answer takes of layers, in plain mathematics. No walk. Layers of items as the document's own answer keeps them; the walk of (tallymanref.Result).Sum. -/
import Derived.Test.YtppamojkhkdfpaaDoorBnE
import Derived.Test.YtppamojkhkdfpaaDoorBnA
import Derived.Test.YtppamojkhkdfpaaDoorBnD
namespace Go.Proofs.YtppamojkhkdfpaaDoor
open Go.RowKit
theorem LayAt.nilOf {w : World} {ad : Option Addr} {n cap : Nat} {ys : List Lay} (h : LayAt w (.slice ad n cap) ys) : n = ys.length := by
  rcases h with ⟨h, rfl⟩ | ⟨g, o, c, cur, h, _⟩
  · cases h; rfl
  · cases h; rfl
theorem addr_ne {g pb o o' : Nat} (h : g ≠ pb) : (⟨g, o, none⟩ : Addr) ≠ ⟨pb, o', none⟩ := fun e => h (by injection e)
theorem tk_done (ys : List Lay) (n : Int) (h : n ≤ 0 ∨ ys = []) : tk ys n = (ys, 0, n) := by
  cases ys with
  | nil => rfl
  | cons y ys =>
    rcases h with h | h
    · unfold tk; rw [if_pos h]
    · cases h
theorem tk_part (y : Lay) (ys : List Lay) (n : Int) (h0 : 0 < n) (h : n < y.qty) : tk (y :: ys) n = (⟨y.id, y.qty - n, y.val - y.val * n / y.qty⟩ :: ys, y.val * n / y.qty, 0) := by
  unfold tk; rw [if_neg (by omega), if_pos h]
theorem tk_whole (y : Lay) (ys : List Lay) (n : Int) (h0 : 0 < n) (h : ¬ n < y.qty) : tk (y :: ys) n = ((tk ys (n - y.qty)).1, y.val + (tk ys (n - y.qty)).2.1, (tk ys (n - y.qty)).2.2) := by
  conv => lhs; unfold tk
  rw [if_neg (by omega), if_neg h]
set_option maxHeartbeats 2000000 in
theorem take_does {pb : Nat} {sv : Value} {s : Stk} {w : World} (h : StkAt w pb sv s) (hok : ∀ y ∈ s.ys, LayOK y) (hv : sumV s.ys ≤ 4000000000000000000) (q : Int) (hq : 0 ≤ q) (hq' : q ≤ 1000000000) :
    Calls Tryd.prog 39 #[.pointer (some ⟨pb, 0, none⟩), .int .i64 q] w fun r w' => r = .returned (.tuple #[.int .i64 (tk s.ys q).2.1, .int .i64 (tk s.ys q).2.2]) ∧ ∃ sv', StkAt w' pb sv' ⟨(tk s.ys q).1, s.price⟩ ∧ Turned w w' pb sv ∧ Fresh w sv sv' := by
  have HV : Hid (sumV s.ys ≤ 4000000000000000000) := hv
  have HK : Hid (∀ y ∈ s.ys, LayOK y) := hok
  have H0 : Hid (StkAt w pb sv s) := h
  clear h hv hok
  go_enter Tryd.func39, Tryd.ntmps39
  go_wp2
  go_loopw [1, 4] (fun i j wr => ∃ (n v : Int) (ys : List Lay) (sv' : Value), i = .int .i64 n ∧ j = .int .i64 v ∧ 0 ≤ n ∧ n ≤ q ∧ Hid (StkAt wr pb sv' ⟨ys, s.price⟩) ∧ Hid (tk s.ys q = ((tk ys n).1, v + (tk ys n).2.1, (tk ys n).2.2)) ∧ Hid (∀ y ∈ ys, LayOK y) ∧ 0 ≤ v ∧ v + sumV ys = sumV s.ys ∧ ys.length ≤ s.ys.length ∧ Hid (Turned w wr pb sv ∧ Fresh w sv sv')) (fun i _ _ => (intOf i).toNat)
  case atStart => exact ⟨q, 0, s.ys, sv, rfl, rfl, hq, Int.le_refl _, H0, by show _ = _; simp, HK, Int.le_refl _, by omega, Nat.le_refl _, ⟨Turned.refl _ _ _, Fresh.refl _ _⟩⟩
  case round =>
    obtain ⟨n, v, ys, sv', rfl, rfl, hn0, hnq, HS, HT, HO, hv0, hvs, hyl, HF⟩ := hrel
    have c0 := HS.out.c0
    have done : ∀ (m : Int), tk ys n = (ys, 0, m) → ∀ r, r = Ending.returned (.tuple #[.int .i64 v, .int .i64 m]) → r = .returned (.tuple #[.int .i64 (tk s.ys q).2.1, .int .i64 (tk s.ys q).2.2]) ∧ ∃ sv'', StkAt wr pb sv'' ⟨(tk s.ys q).1, s.price⟩ ∧ Turned w wr pb sv ∧ Fresh w sv sv'' := fun m hm r hr => by
      refine ⟨?_, sv', ?_, HF.out.1, HF.out.2⟩
      · rw [hr, HT.out, hm]; simp
      · rw [HT.out, hm]; exact HS.out
    have DONE : Hid _ := done
    clear done
    by_cases hz : n = 0
    · subst hz
      have HD : Hid (tk ys 0 = (ys, 0, 0)) := tk_done ys 0 (Or.inl (Int.le_refl _))
      go_wp2
      go_ret2
      exact DONE.out 0 HD.out _ rfl
    · have hn1 : 0 < n := by omega
      rcases HS.out.lay.form with ⟨e1, e2⟩ | ⟨g, o, cap, e1, hg, hc1, hc2⟩
      · simp only at e2
        subst e1
        have HD : Hid (tk ys n = (ys, 0, n)) := tk_done ys n (Or.inr e2)
        go_wp2
        go_ret2
        exact DONE.out n HD.out _ rfl
      · subst e1
        cases ys with
        | nil =>
          have HD : Hid (tk [] n = ([], 0, n)) := rfl
          go_wp2
          go_ret2
          exact DONE.out n HD.out _ rfl
        | cons y ys =>
          clear DONE
          have hlc := fun j hj => (HS.out.lay.cell 0 j (by simp) hj).1
          have q0 := hlc 0 (by omega)
          have q1 := hlc 1 (by omega)
          have q2 := hlc 2 (by omega)
          have oky := HO.out y (List.mem_cons_self ..)
          have hsn := sum_nonneg (ys := ys) fun z hz => HO.out z (List.mem_cons_of_mem _ hz)
          have hvy : v + (y.val + sumV ys) = sumV s.ys := hvs
          have hvb : y.val ≤ 4000000000000000000 := by have := HV.out; omega
          have hgp : g ≠ pb := fun e => HS.out.ne (by simp [Value.ownBlock, e])
          have hgp' : pb ≠ g := fun e => hgp e.symm
          obtain ⟨id, qty, val⟩ := y
          have OKY : Hid (LayOK ⟨id, qty, val⟩) := oky
          unfold LayOK at oky
          simp only at oky hvb hvy
          simp only [layC, List.getElem_cons_zero, List.getElem?_cons_zero, List.getElem?_cons_succ, Nat.zero_mul, Nat.add_zero] at q0 q1 q2
          clear hlc hvs
          by_cases hlt : n < qty
          · have hw := fun W => worth_any ⟨id, qty, val⟩ n W OKY.out hvb hn0 (by simp only; omega)
            have hpl := part_le (v := val) (n := n) (q := qty) (by omega) hn0 (by omega) (by omega)
            have HD : Hid (tk (⟨id, qty, val⟩ :: ys) n = (⟨id, qty - n, val - val * n / qty⟩ :: ys, val * n / qty, 0)) := tk_part ⟨id, qty, val⟩ ys n hn1 hlt
            simp only at hw
            generalize val * n / qty = pt at hw hpl HD
            have hvp : v + pt ≤ 4000000000000000000 := by have := HV.out; omega
            go_wp2_with fail
            refine (hw _).mono ?_
            rintro e w1 ⟨rfl, hb1⟩
            have S1 := HS.out.below hb1
            have b0 := S1.c0
            have b1 := (S1.lay.cell 0 1 (by simp) (by omega))
            have b2 := (S1.lay.cell 0 2 (by simp) (by omega))
            simp only [layC, List.getElem_cons_zero, List.getElem?_cons_zero, List.getElem?_cons_succ, Nat.zero_mul, Nat.add_zero] at b1 b2
            obtain ⟨b1, z1⟩ := b1
            obtain ⟨b2, z2⟩ := b2
            have L2 := (S1.lay.set 0 1 (by simp) (by omega) (.int .i64 (qty - n)) ⟨id, qty - n, val⟩ rfl).set 0 2 (by simp) (by omega) (.int .i64 (val - pt)) ⟨id, qty - n, val - pt⟩ rfl
            simp only [List.set_cons_zero, Nat.zero_mul, Nat.add_zero] at L2
            have HL2 : Hid (LayAt _ _ _) := L2
            have HS1 : Hid (StkAt w1 pb _ _) := S1
            have HB1 : Hid (Below wr.heap.size wr w1) := hb1
            have qnz : ¬ qty - n = 0 := by omega
            clear hw L2 S1 hb1 q0 q1 q2 c0
            go_wp2
            go_roundw
            case rel =>
              have NE := HS1.out.ne
              have TU : Turned wr ((w1.setCell ⟨g, o + 1, none⟩ (.int .i64 (qty - n))).setCell ⟨g, o + 2, none⟩ (.int .i64 (val - pt))) pb (.slice (some ⟨g, o, none⟩) (⟨id, qty, val⟩ :: ys).length cap) :=
                (Turned.of_below HB1.out).trans ((turned_row _ g _ pb (.slice (some ⟨g, o, none⟩) (⟨id, qty, val⟩ :: ys).length cap) _ rfl).trans (turned_row _ g _ pb _ _ rfl) (Fresh.refl _ _)) (Fresh.refl _ _)
              refine ⟨0, v + pt, ⟨id, qty - n, val - pt⟩ :: ys, _, by go_num, rfl, Int.le_refl _, hq, ⟨?_, ?_, ?_, ?_, HL2.out, NE⟩, ?_, ?_, by omega, ?_, hyl, ?_⟩
              · exact (set_other (addr_ne hgp)).trans ((set_other (addr_ne hgp)).trans HS1.out.c0)
              · exact (set_other (addr_ne hgp)).trans ((set_other (addr_ne hgp)).trans HS1.out.c1)
              · exact set_frz.trans (set_frz.trans HS1.out.f0)
              · exact set_frz.trans (set_frz.trans HS1.out.f1)
              · show _ = _
                rw [HT.out, HD.out, tk_done _ _ (Or.inl (Int.le_refl _))]
                simp
              · intro z hz
                rcases List.mem_cons.1 hz with rfl | hm
                · refine ⟨?_, ?_, ?_⟩ <;> simp only <;> omega
                · exact HO.out z (List.mem_cons_of_mem _ hm)
              · simp only [sumV]; omega
              · exact ⟨HF.out.1.trans TU HF.out.2, HF.out.2⟩
            case measure => simp [intOf]; omega
          · have hw := fun W => worth_any ⟨id, qty, val⟩ qty W OKY.out hvb (by omega) (by simp only; omega)
            have hqq : val * qty / qty = val := Int.mul_ediv_cancel _ (by omega)
            have HD : Hid (tk (⟨id, qty, val⟩ :: ys) n = ((tk ys (n - qty)).1, val + (tk ys (n - qty)).2.1, (tk ys (n - qty)).2.2)) := tk_whole ⟨id, qty, val⟩ ys n hn1 hlt
            simp only at hw
            rw [hqq] at hw
            have hvp : v + val ≤ 4000000000000000000 := by have := HV.out; omega
            have REST : ∀ (W : World) (sv2 : Value), StkAt W pb sv2 ⟨ys, s.price⟩ → Turned wr W pb (.slice (some ⟨g, o, none⟩) (⟨id, qty, val⟩ :: ys).length cap) → Fresh wr (.slice (some ⟨g, o, none⟩) (⟨id, qty, val⟩ :: ys).length cap) sv2 →
                ∃ (n2 v2 : Int) (ys2 : List Lay) (sv2 : Value), Value.int .i64 (n - qty) = .int .i64 n2 ∧ Value.int .i64 (v + val) = .int .i64 v2 ∧ 0 ≤ n2 ∧ n2 ≤ q ∧ Hid (StkAt W pb sv2 ⟨ys2, s.price⟩) ∧ Hid (tk s.ys q = ((tk ys2 n2).1, v2 + (tk ys2 n2).2.1, (tk ys2 n2).2.2)) ∧ Hid (∀ y ∈ ys2, LayOK y) ∧ 0 ≤ v2 ∧ v2 + sumV ys2 = sumV s.ys ∧ ys2.length ≤ s.ys.length ∧ Hid (Turned w W pb sv ∧ Fresh w sv sv2) := fun W sv2 x1 x2 x3 => by
              refine ⟨n - qty, v + val, ys, sv2, rfl, rfl, by omega, by omega, x1, ?_, fun z hz => HO.out z (List.mem_cons_of_mem _ hz), by omega, by omega, by simp only [List.length_cons] at hyl; omega, ⟨HF.out.1.trans x2 HF.out.2, HF.out.2.trans x3 HF.out.1.size⟩⟩
              show _ = _
              rw [HT.out, HD.out]
              simp only [Int.add_assoc]
            have HREST : Hid _ := REST
            have hle : qty ≤ n := by omega
            have hmin : min n qty = qty := Int.min_eq_right hle
            clear REST
            have hcap : (cap = 1 ∧ ∀ x y : Nat, (if cap = 1 then x else y) = x) ∨ (¬ cap = 1 ∧ ∀ x y : Nat, (if cap = 1 then x else y) = y) := by
              by_cases e : cap = 1
              · exact Or.inl ⟨e, fun x y => if_pos e⟩
              · exact Or.inr ⟨e, fun x y => if_neg e⟩
            have HCAP : Hid _ := hcap
            clear hcap
            rcases Int.lt_or_eq_of_le hle with hc | hc
            rotate_left
            · subst hc
              go_wp2_with fail
              all_goals
                refine (hw _).mono ?_
                rintro e w1 ⟨rfl, hb1⟩
                have S1 := HS.out.below hb1
                have b0 := S1.c0
                have b1 := (S1.lay.cell 0 1 (by simp) (by omega))
                have b2 := (S1.lay.cell 0 2 (by simp) (by omega))
                simp only [layC, List.getElem_cons_zero, List.getElem?_cons_zero, List.getElem?_cons_succ, Nat.zero_mul, Nat.add_zero] at b1 b2
                obtain ⟨b1, z1⟩ := b1
                obtain ⟨b2, z2⟩ := b2
                have f0 := S1.f0
                have L2 := (S1.lay.set 0 1 (by simp) (by omega) (.int .i64 0) ⟨id, 0, val⟩ rfl).set 0 2 (by simp) (by omega) (.int .i64 0) ⟨id, 0, 0⟩ rfl
                simp only [List.set_cons_zero, Nat.zero_mul, Nat.add_zero] at L2
                have L3 := L2.tail
                obtain ⟨W2, hW2⟩ : ∃ W, W = (w1.setCell ⟨g, o + 1, none⟩ (.int .i64 0)).setCell ⟨g, o + 2, none⟩ (.int .i64 0) := ⟨_, rfl⟩
                rw [← hW2] at L2 L3
                have TU : Turned wr W2 pb (.slice (some ⟨g, o, none⟩) (⟨id, qty, val⟩ :: ys).length cap) := by
                  rw [hW2]
                  exact (Turned.of_below hb1).trans ((turned_row _ g _ pb (.slice (some ⟨g, o, none⟩) (⟨id, qty, val⟩ :: ys).length cap) _ rfl).trans (turned_row _ g _ pb _ _ rfl) (Fresh.refl _ _)) (Fresh.refl _ _)
                have d0 : W2.cell? ⟨pb, 0, none⟩ = some (.slice (some ⟨g, o, none⟩) (⟨id, qty, val⟩ :: ys).length cap) := by rw [hW2]; exact (set_other (addr_ne hgp)).trans ((set_other (addr_ne hgp)).trans S1.c0)
                have d1 : W2.cell? ⟨pb, 1, none⟩ = some (.int .i64 s.price) := by rw [hW2]; exact (set_other (addr_ne hgp)).trans ((set_other (addr_ne hgp)).trans S1.c1)
                have d2 : W2.frozen? ⟨pb, 0, none⟩ = false := by rw [hW2]; exact set_frz.trans (set_frz.trans S1.f0)
                have d3 : W2.frozen? ⟨pb, 1, none⟩ = false := by rw [hW2]; exact set_frz.trans (set_frz.trans S1.f1)
                have END := fun (c : Nat) (hc : ∃ (x : c = (if cap = 1 then o else o + 3)), True) => HREST.out (W2.setCell ⟨pb, 0, none⟩ (.slice (some ⟨g, c, none⟩) ys.length (cap - 1))) (.slice (some ⟨g, c, none⟩) ys.length (cap - 1))
                  (StkAt.put0 (s := ⟨ys, s.price⟩) d0 d1 d2 d3 (by obtain ⟨hx, _⟩ := hc; rw [hx]; exact L3) (by simp [Value.ownBlock, hgp]))
                  (TU.trans (turned_set _ _ _ (.slice (some ⟨g, o, none⟩) (⟨id, qty, val⟩ :: ys).length cap) _) (Fresh.refl _ _)) (fun k hk => Or.inl (by simpa [Value.ownBlock] using hk))
                have HEND : Hid _ := END
                have HW2 : Hid (W2 = _) := hW2
                clear hw L2 L3 S1 hb1 q0 q1 q2 c0 TU d1 d3 END hW2 d0 d2
                have hgo : qty ≤ 100000 := by omega
                rcases HCAP.out with ⟨k1, k2⟩ | ⟨k1, k2⟩
                · go_wp2
                  go_roundw
                  case rel =>
                    have X := HEND.out o ⟨(k2 o (o + 3)).symm, trivial⟩
                    rw [HW2.out, k1, Int.sub_self] at X
                    exact X
                  case measure => simp [intOf]; omega
                · go_wp2
                  go_roundw
                  case rel =>
                    have X := HEND.out (o + 3) ⟨(k2 o (o + 3)).symm, trivial⟩
                    rw [HW2.out, Int.sub_self] at X
                    exact X
                  case measure => simp [intOf]; omega
            · go_wp2_with fail
              refine (hw _).mono ?_
              rintro e w1 ⟨rfl, hb1⟩
              have S1 := HS.out.below hb1
              have b0 := S1.c0
              have b1 := (S1.lay.cell 0 1 (by simp) (by omega))
              have b2 := (S1.lay.cell 0 2 (by simp) (by omega))
              simp only [layC, List.getElem_cons_zero, List.getElem?_cons_zero, List.getElem?_cons_succ, Nat.zero_mul, Nat.add_zero] at b1 b2
              obtain ⟨b1, z1⟩ := b1
              obtain ⟨b2, z2⟩ := b2
              have f0 := S1.f0
              have L2 := (S1.lay.set 0 1 (by simp) (by omega) (.int .i64 0) ⟨id, 0, val⟩ rfl).set 0 2 (by simp) (by omega) (.int .i64 0) ⟨id, 0, 0⟩ rfl
              simp only [List.set_cons_zero, Nat.zero_mul, Nat.add_zero] at L2
              have L3 := L2.tail
              obtain ⟨W2, hW2⟩ : ∃ W, W = (w1.setCell ⟨g, o + 1, none⟩ (.int .i64 0)).setCell ⟨g, o + 2, none⟩ (.int .i64 0) := ⟨_, rfl⟩
              rw [← hW2] at L2 L3
              have TU : Turned wr W2 pb (.slice (some ⟨g, o, none⟩) (⟨id, qty, val⟩ :: ys).length cap) := by
                rw [hW2]
                exact (Turned.of_below hb1).trans ((turned_row _ g _ pb (.slice (some ⟨g, o, none⟩) (⟨id, qty, val⟩ :: ys).length cap) _ rfl).trans (turned_row _ g _ pb _ _ rfl) (Fresh.refl _ _)) (Fresh.refl _ _)
              have d0 : W2.cell? ⟨pb, 0, none⟩ = some (.slice (some ⟨g, o, none⟩) (⟨id, qty, val⟩ :: ys).length cap) := by rw [hW2]; exact (set_other (addr_ne hgp)).trans ((set_other (addr_ne hgp)).trans S1.c0)
              have d1 : W2.cell? ⟨pb, 1, none⟩ = some (.int .i64 s.price) := by rw [hW2]; exact (set_other (addr_ne hgp)).trans ((set_other (addr_ne hgp)).trans S1.c1)
              have d2 : W2.frozen? ⟨pb, 0, none⟩ = false := by rw [hW2]; exact set_frz.trans (set_frz.trans S1.f0)
              have d3 : W2.frozen? ⟨pb, 1, none⟩ = false := by rw [hW2]; exact set_frz.trans (set_frz.trans S1.f1)
              have END := fun (c : Nat) (hc : ∃ (x : c = (if cap = 1 then o else o + 3)), True) => HREST.out (W2.setCell ⟨pb, 0, none⟩ (.slice (some ⟨g, c, none⟩) ys.length (cap - 1))) (.slice (some ⟨g, c, none⟩) ys.length (cap - 1))
                (StkAt.put0 (s := ⟨ys, s.price⟩) d0 d1 d2 d3 (by obtain ⟨hx, _⟩ := hc; rw [hx]; exact L3) (by simp [Value.ownBlock, hgp]))
                (TU.trans (turned_set _ _ _ (.slice (some ⟨g, o, none⟩) (⟨id, qty, val⟩ :: ys).length cap) _) (Fresh.refl _ _)) (fun k hk => Or.inl (by simpa [Value.ownBlock] using hk))
              have HEND : Hid _ := END
              have HW2 : Hid (W2 = _) := hW2
              clear hw L2 L3 S1 hb1 q0 q1 q2 c0 TU d1 d3 END hW2 d0 d2
              have hgo : qty ≤ 100000 := by omega
              rcases HCAP.out with ⟨k1, k2⟩ | ⟨k1, k2⟩
              · go_wp2
                go_roundw
                case rel =>
                  have X := HEND.out o ⟨(k2 o (o + 3)).symm, trivial⟩
                  rw [HW2.out, k1] at X
                  exact X
                case measure => simp [intOf]; omega
              · go_wp2
                go_roundw
                case rel =>
                  have X := HEND.out (o + 3) ⟨(k2 o (o + 3)).symm, trivial⟩
                  rw [HW2.out] at X
                  exact X
                case measure => simp [intOf]; omega
end Go.Proofs.YtppamojkhkdfpaaDoor
namespace Go.Proofs.YtppamojkhkdfpaaDoor
/-- So many of a layer are taken. -/
def few (n q : Int) : Int := if n < q then n else q
/-- One layer more. -/
def tkStep (r : List Lay × Int × Int) (y : Lay) : List Lay × Int × Int :=
  (if few r.2.2 y.qty < y.qty then r.1 ++ [⟨y.id, y.qty - few r.2.2 y.qty, y.val - y.val * few r.2.2 y.qty / y.qty⟩] else r.1, r.2.1 + y.val * few r.2.2 y.qty / y.qty, r.2.2 - few r.2.2 y.qty)
def tkR (r : List Lay × Int × Int) (ys : List Lay) : List Lay × Int × Int := ys.foldl tkStep r
theorem tkR_snoc (r : List Lay × Int × Int) (ys : List Lay) (k : Nat) (hk : k < ys.length) : tkR r (ys.take (k + 1)) = tkStep (tkR r (ys.take k)) ys[k] := by
  rw [List.take_succ_eq_append_getElem hk]
  unfold tkR
  rw [List.foldl_append]
  rfl
theorem tkR_is : ∀ (ys : List Lay) (a : List Lay) (v n : Int), (∀ y ∈ ys, LayOK y) → 0 ≤ n → tkR (a, v, n) ys = (a ++ (tk ys n).1, v + (tk ys n).2.1, (tk ys n).2.2)
  | [], a, v, n, _, _ => by simp [tkR, tk]
  | y :: ys, a, v, n, ok, hn => by
    have hy := ok y (List.mem_cons_self ..)
    unfold LayOK at hy
    have ih := fun a v n => tkR_is ys a v n (fun z hz => ok z (List.mem_cons_of_mem _ hz))
    show tkR (tkStep (a, v, n) y) ys = _
    by_cases h0 : n ≤ 0
    · have e : n = 0 := by omega
      subst e
      have hs : tkStep (a, v, 0) y = (a ++ [y], v, 0) := by
        unfold tkStep few
        rw [if_pos (by omega : (0 : Int) < y.qty), if_pos (by omega : (0 : Int) < y.qty)]
        simp
      rw [hs, ih _ _ _ (Int.le_refl _), tk_done ys 0 (Or.inl (Int.le_refl _)), tk_done (y :: ys) 0 (Or.inl (Int.le_refl _))]
      simp
    · by_cases hq : n < y.qty
      · have hs : tkStep (a, v, n) y = (a ++ [⟨y.id, y.qty - n, y.val - y.val * n / y.qty⟩], v + y.val * n / y.qty, 0) := by
          unfold tkStep few
          simp only [hq, if_true, Int.sub_self]
        rw [hs, ih _ _ _ (Int.le_refl _), tk_done ys 0 (Or.inl (Int.le_refl _)), tk_part y ys n (by omega) hq]
        simp
      · have hd : y.val * y.qty / y.qty = y.val := Int.mul_ediv_cancel _ (by omega)
        have hs : tkStep (a, v, n) y = (a, v + y.val, n - y.qty) := by
          unfold tkStep few
          simp only [hq, if_false, Int.lt_irrefl, hd]
        rw [hs, ih _ _ _ (by omega), tk_whole y ys n (by omega) hq]
        simp only [Int.add_assoc]
end Go.Proofs.YtppamojkhkdfpaaDoor
namespace Go.Proofs.YtppamojkhkdfpaaDoor
open Go.RowKit Go.Maps
structure RLay (B : Nat) (W : World) (mb n : Nat) (D : DataW Value) (V : ByteArray → Value) (M : ByteArray → List Lay) : Prop where
  map : W.ownsMap Tryd.prog 9 heldE mb n D
  at_ : ∀ x, D.atKey (keyB x) (.held (.slice none 0 0)) = .held (V x)
  lay : ∀ x, LayAt W (V x) (M x)
  ge : ∀ x k, (V x).ownBlock = some k → B ≤ k ∧ k ≠ mb
  ne : ∀ x y, x ≠ y → ∀ k, (V x).ownBlock = some k → (V y).ownBlock ≠ some k
theorem RLay.kept {B : Nat} {W W' : World} {mb n : Nat} {D : DataW Value} {V : ByteArray → Value} {M : ByteArray → List Lay} (h : RLay B W mb n D V M) (hm : W'.heap[mb]? = W.heap[mb]?) (hv : ∀ x k, (V x).ownBlock = some k → W'.heap[k]? = W.heap[k]?) : RLay B W' mb n D V M :=
  ⟨map_same h.map hm, h.at_, fun x => (h.lay x).kept (hv x), h.ge, h.ne⟩
theorem RLay.below {B : Nat} {W W' : World} {mb n : Nat} {D : DataW Value} {V : ByteArray → Value} {M : ByteArray → List Lay} (h : RLay B W mb n D V M) (hb : Below W.heap.size W W') : RLay B W' mb n D V M :=
  h.kept (hb.block _ h.map.lt) fun x k hk => hb.block k ((h.lay x).lt hk)
theorem zero_layR (w : World) : (zeroValue 34).run Tryd.prog w = .ok (.slice none 0 0) w := by kernel_rfl
theorem RLay.look {B : Nat} {W : World} {mb n : Nat} {D : DataW Value} {V : ByteArray → Value} {M : ByteArray → List Lay} (h : RLay B W mb n D V M) (x : ByteArray) (hx : x.size ≤ maxLen) :
    (Instr.lookup 26 (.map (some mb)) (.string x) false).run Tryd.prog W = .ok (V x) W := by
  obtain ⟨v, ps, h1, h2⟩ := h.map.lookup law_strT Tryd.underlying26 (zero_layR W) (zd := .held (.slice none 0 0)) (zp := []) rfl (key_str x hx)
  have h3 := heldE_inv h2
  rw [h.at_ x] at h3
  rw [h1, ← held_inj h3]
set_option maxHeartbeats 2000000 in
theorem refSum_any {B : Nat} {W : World} {mb n : Nat} {D : DataW Value} {V : ByteArray → Value} {M : ByteArray → List Lay} (h : RLay B W mb n D V M) (u : Value) (x : ByteArray) (hx : x.size ≤ maxLen) (hok : ∀ y ∈ M x, LayOK y) (hq : sumQ (M x) ≤ 1000000000) (hv : sumV (M x) ≤ 4000000000000000000) (hl : (M x).length ≤ 1000000) (hu : ∃ ad n c, u = .slice ad n c) :
    Calls Tryd.prog 7 #[.agg #[u, .map (some mb)], .string x] W fun e w' => e = .returned (.tuple #[.int .i64 (sumQ (M x)), .int .i64 (sumV (M x))]) ∧ Below W.heap.size W w' := by
  obtain ⟨ad, nu, cu, rfl⟩ := hu
  obtain ⟨W0, hW0⟩ : ∃ w', w' = W.alloc (.cells #[.slice ad nu cu, .map (some mb)] 28) := ⟨_, rfl⟩
  have hB0 : Below W.heap.size W W0 := by rw [hW0]; exact (Below.refl _ _).alloc (Nat.le_refl _) _
  have h1 := (h.below hB0).look x hx
  have h2 := (h.below hB0).lay x
  obtain ⟨ys, hys⟩ : ∃ ys, ys = M x := ⟨_, rfl⟩
  rw [← hys] at h2 hok hq hv hl
  rw [← hys]
  obtain ⟨ad2, n2, cp2, hv2⟩ := h2.slice
  rw [hv2] at h1 h2
  have hn2 := h2.nilOf
  subst hn2
  have HW0 : Hid (W0 = _) := hW0
  rw [hW0] at h1
  clear hys hv2 h
  rcases h2.form with ⟨e, rfl⟩ | ⟨g, o, cap, e, hg, hc1, hc2⟩
  · simp only [Value.slice.injEq] at e
    obtain ⟨rfl, _, rfl⟩ := e
    have HB : Hid (Below W.heap.size W W0) := hB0
    clear h2 hB0 hW0
    simp only [List.length_nil] at h1
    go_enter Tryd.func7, Tryd.ntmps7
    go_wp2
    refine wp_loop_rounds 1 ?_
    rw [rounds_succ]
    go_wp2
    go_ret2
    exact ⟨rfl, by rw [← HW0.out]; exact HB.out⟩
  · simp only [Value.slice.injEq] at e
    obtain ⟨rfl, _, rfl⟩ := e
    clear hW0
    go_enter Tryd.func7, Tryd.ntmps7
    go_wp2_with fail
    rw [← HW0.out]
    clear h1
    go_loopw [4, 5, 13] (fun q s i wr => ∃ k : Nat, k ≤ ys.length ∧ i = .int .i64 k ∧ q = .int .i64 (sumQ (ys.take k)) ∧ s = .int .i64 (sumV (ys.take k)) ∧ Below W0.heap.size W0 wr) (fun _ _ i _ => ys.length - (intOf i).toNat)
    case atStart => exact ⟨0, Nat.zero_le _, rfl, rfl, rfl, Below.refl _ _⟩
    case round =>
      obtain ⟨k, hk, rfl, rfl, rfl, hb⟩ := hrel
      by_cases hlt : k < ys.length
      · have hc := fun j hj => ((h2.below hb).cell k j hlt hj).1
        have c0 := hc 0 (by omega)
        have c1 := hc 1 (by omega)
        have c2 := hc 2 (by omega)
        have st := sum_take hok k
        have st1 := sum_take hok (k + 1)
        have sn := sum_snoc ys k hlt
        have SN : Hid (sumQ (ys.take (k + 1)) = sumQ (ys.take k) + ys[k].qty ∧ sumV (ys.take (k + 1)) = sumV (ys.take k) + ys[k].val) := sn
        have ok := hok ys[k] (List.getElem_mem hlt)
        rw [sn.1, sn.2] at st1
        clear sn hc
        generalize ys[k] = y at c0 c1 c2 st1 SN ok
        obtain ⟨id, qty, val⟩ := y
        unfold LayOK at ok
        simp only [layC, List.getElem?_cons_zero, List.getElem?_cons_succ, Nat.add_zero] at c0 c1 c2 st1 SN ok
        go_wp2
        go_roundw
        case rel => exact ⟨k + 1, by omega, by go_num, by rw [SN.out.1], by rw [SN.out.2], hb.alloc hb.size _⟩
        case measure => simp [intOf]; omega
      · obtain rfl : k = ys.length := by omega
        have e : ys.take ys.length = ys := List.take_length
        go_wp2
        go_ret2
        exact ⟨by rw [e]; rfl, hB0.trans (hb.mono hB0.size)⟩
end Go.Proofs.YtppamojkhkdfpaaDoor
