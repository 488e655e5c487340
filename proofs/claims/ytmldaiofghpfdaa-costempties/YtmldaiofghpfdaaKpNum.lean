/- The walk of tallymankeep.numbered. -/
import Derived.Test.YtmldaiofghpfdaaKpIdx
namespace Go.Proofs.Ytmldaiofghpfdaa
open Go.RowKit
/-- Those that are Right, numbered from 1 on. -/
noncomputable def numb (l : List Ev) : List Ev := (l.filter rtB).mapIdx fun i e => { e with id := (i : Int) + 1 }
theorem numb_len (l : List Ev) : (numb l).length ≤ l.length := by unfold numb; rw [List.length_mapIdx]; exact List.length_filter_le ..
theorem numb_snoc (a : List Ev) (x : Ev) : numb (a ++ [x]) = if rtB x = true then numb a ++ [{ x with id := ((numb a).length : Int) + 1 }] else numb a := by
  unfold numb
  rw [List.filter_append]
  by_cases h : rtB x = true
  · rw [if_pos h, show List.filter rtB [x] = [x] by simp [h], List.mapIdx_append]
    simp
  · rw [if_neg h, show List.filter rtB [x] = [] by simp [h], List.append_nil]
theorem own_lenN {w : World} {B : Nat} {T : TypeId} {m n : Nat} {v : Value} {xs : List Value} (h : w.ownsRow B T m v n xs) : ∃ ad cap, v = .slice ad n cap := by
  rcases h.2 with ⟨rfl, rfl⟩ | ⟨g, cap, cur, rfl, _⟩
  · exact ⟨none, 0, rfl⟩
  · exact ⟨_, _, rfl⟩
set_option maxHeartbeats 2000000 in
theorem numbered_any (l : List Ev) (ao : Option Addr) (cap : Nat) (w : World) (h : EvsC w ao l) (hw : ∀ e ∈ l, EvW e) (hl : l.length ≤ 1000) :
    Calls Try.prog 6 #[.slice ao l.length cap] w fun r w' => ∃ v' : Value, r = .returned v' ∧ w'.ownsRow w.heap.size 36 7 v' (numb l).length ((numb l).flatMap evC) ∧ Below w.heap.size w w' := by
  obtain ⟨i0, hi, hz0, hz1, hz2⟩ := info_parts Try.infoEv
  have HL : Hid (EvsC w ao l) := h
  have HW : Hid (∀ e ∈ l, EvW e) := hw
  clear h hw
  go_enter Try.func6, Try.ntmps6
  go_wp2
  go_loopw [3, 4] (fun u i wr => ∃ k : Nat, k ≤ l.length ∧ i = .int .i64 k ∧ Hid (wr.ownsRow w.heap.size 36 7 u (numb (l.take k)).length ((numb (l.take k)).flatMap evC)) ∧ Below w.heap.size w wr) (fun _ i _ => l.length - (intOf i).toNat)
  case atStart => exact ⟨0, Nat.zero_le _, rfl, World.ownsRow_nil _ _ _ _, Below.refl _ _⟩
  case round =>
    obtain ⟨k, hk, rfl, HO, hb⟩ := hrel
    by_cases hlt : k < l.length
    · obtain ⟨g, o, hao, hg, hc⟩ := HL.out.below hb (by omega)
      subst hao
      obtain ⟨x, hx⟩ : ∃ x, x = l[k] := ⟨_, rfl⟩
      have hcw : ∀ j, j < 7 → wr.cell? ⟨g, o + k * 7 + j, none⟩ = (evC x)[j]? := fun j hj => by rw [hc k hlt j hj, hx]
      have hxw : EvW x := by rw [hx]; exact HW.out _ (List.getElem_mem hlt)
      have HT : Hid (l.take (k + 1) = l.take k ++ [x]) := by show _ = _; rw [List.take_succ_eq_append_getElem hlt, hx]
      have hnl : (numb (l.take k)).length ≤ 1000 := Nat.le_trans (numb_len _) (by rw [List.length_take]; omega)
      obtain ⟨id, item, kind, qty, price, ofI, day⟩ := x
      have hcw2 : ∀ (W : World) (hb2 : Below wr.heap.size wr W) j, j < 7 → W.cell? ⟨g, o + k * 7 + j, none⟩ = (evC ⟨id, item, kind, qty, price, ofI, day⟩)[j]? := fun W hb2 j hj => (hb2.cell (p := ⟨g, o + k * 7 + j, none⟩) hg).trans (hcw j hj)
      have HCW : Hid _ := hcw2
      have q0 := hcw 0 (by omega)
      have q1 := hcw 1 (by omega)
      have q2 := hcw 2 (by omega)
      have q3 := hcw 3 (by omega)
      have q4 := hcw 4 (by omega)
      have q5 := hcw 5 (by omega)
      have q6 := hcw 6 (by omega)
      simp only [evC, List.getElem?_cons_zero, List.getElem?_cons_succ, Nat.add_zero] at q0 q1 q2 q3 q4 q5 q6
      have hr := right_any ⟨id, item, kind, qty, price, ofI, day⟩ wr hxw
      unfold evV at hr
      simp only at hr
      clear hcw hcw2 hx hc
      go_wp2_with fail
      refine hr.mono ?_
      rintro e w2 ⟨⟨b, rfl, hbb⟩, hb2⟩
      have hbt : rtB ⟨id, item, kind, qty, price, ofI, day⟩ = b := by
        have := rtB_iff ⟨id, item, kind, qty, price, ofI, day⟩
        cases b with
        | true => exact this.2 (hbb.1 rfl)
        | false => exact Bool.eq_false_iff.2 fun e => by have := hbb.2 (this.1 e); cases this
      have HNS := numb_snoc (l.take k) ⟨id, item, kind, qty, price, ofI, day⟩
      rw [hbt, ← HT.out] at HNS
      have hBw : Below w.heap.size w w2 := hb.trans (hb2.mono hb.size)
      have HO2 : Hid (w2.ownsRow w.heap.size 36 7 u3 (numb (l.take k)).length ((numb (l.take k)).flatMap evC)) := own_below HO.out hb2 (Nat.le_refl _)
      have c0 := HCW.out w2 hb2 0 (by omega)
      have c1 := HCW.out w2 hb2 1 (by omega)
      have c2 := HCW.out w2 hb2 2 (by omega)
      have c3 := HCW.out w2 hb2 3 (by omega)
      have c4 := HCW.out w2 hb2 4 (by omega)
      have c5 := HCW.out w2 hb2 5 (by omega)
      have c6 := HCW.out w2 hb2 6 (by omega)
      simp only [evC, List.getElem?_cons_zero, List.getElem?_cons_succ, Nat.add_zero] at c0 c1 c2 c3 c4 c5 c6
      clear hbb q0 q1 q2 q3 q4 q5 q6 hr hbt
      cases b with
      | true =>
        rw [if_pos rfl] at HNS
        have HN : Hid (numb (l.take (k + 1)) = _) := HNS
        obtain ⟨ad3, cp3, hu3⟩ := own_lenN HO2.out
        clear HNS
        obtain ⟨nb, hnb⟩ : ∃ nb, nb = numb (l.take k) := ⟨_, rfl⟩
        rw [← hnb] at HO2 HN hnl hu3
        clear hnb
        subst hu3
        go_wp2_with (first
          | (at_builtin; refine wpList_append_own _ rfl _ _ 22 rfl w.heap.size 36 i0 evZ 7 64 Try.underlying22 hi hz0 hz1 hz2 rfl (by decide) _ _ _ rfl ((HO2.out.alloc _).alloc _) ⟨w2.heap.size + 1, 0, none⟩ 1 1 (evC ⟨(nb.length : Int) + 1, item, kind, qty, price, ofI, day⟩) rfl rfl ?d1 ?d2 ?d3 ?d4 ?d5 ?_)
          | go_in)
        case d1 => exact cells_of_list (w := w2.alloc _) (b := w2.heap.size + 1) (by simp)
        case d2 => exact evC_one _
        case d3 => unfold maxLen; omega
        case d4 => omega
        case d5 => have := hBw.size; simp; omega
        · intro v' w3 hown3 hgr _
          go_wp2
          go_roundw
          case rel =>
            refine ⟨k + 1, by omega, by go_num, ?_, ?_⟩
            · show World.ownsRow _ _ _ _ _ _ _
              rw [HN.out]
              simp only [List.length_append, List.length_cons, List.length_nil, Nat.zero_add, List.flatMap_append, List.flatMap_cons, List.flatMap_nil, List.append_nil]
              exact hown3
            · exact ((hBw.alloc (by have := hBw.size; omega) _).alloc (by have := hBw.size; simp; omega) _).grown hgr (by have := hBw.size; simp; omega) (fun j hj => (HO2.out.lt j hj).1)
          case measure => simp [intOf]; omega
      | false =>
        rw [if_neg (by simp)] at HNS
        have HN : Hid (numb (l.take (k + 1)) = numb (l.take k)) := HNS
        clear HNS
        go_wp2
        go_roundw
        case rel =>
          refine ⟨k + 1, by omega, by go_num, ?_, hBw⟩
          show World.ownsRow _ _ _ _ _ _ _
          rw [HN.out]
          exact HO2.out
        case measure => simp [intOf]; omega
    · obtain rfl : k = l.length := by omega
      have ho := HO.out
      rw [List.take_length] at ho
      go_wp2
      go_ret
      exact ⟨_, rfl, ho, hb⟩
end Go.Proofs.Ytmldaiofghpfdaa
