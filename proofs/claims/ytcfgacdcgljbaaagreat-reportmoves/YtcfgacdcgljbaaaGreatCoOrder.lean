/- The walk of cost.inOrder: those that are Right, in the stable row. -/
import Derived.Test.YtcfgacdcgljbaaaGreatBnJ
import Derived.Test.YtcfgacdcgljbaaaGreatBnK
namespace Go.Proofs.YtcfgacdcgljbaaaGreat
open Go.RowKit
set_option maxHeartbeats 2000000 in
theorem inOrder_any (l : List Ev) (v : Value) (w : World) (h : EvsAt w v l) (hw : ∀ e ∈ l, EvW e) (hl : l.length ≤ 100000) :
    Calls Tryz.prog 39 #[v] w fun r w' => ∃ v' : Value, r = .returned v' ∧ w'.ownsRow w.heap.size 36 7 v' (stl (l.filter rtB)).length ((stl (l.filter rtB)).flatMap evC) ∧ Below w.heap.size w w' := by
  obtain ⟨i0, hi, hz0, hz1, hz2⟩ := info_parts Tryz.infoEv
  have HL : Hid (EvsAt w v l) := h
  have HW : Hid (∀ e ∈ l, EvW e) := hw
  clear h hw
  rcases HL.out with ⟨hv, hn⟩ | ⟨g, o, cap, hv, hg, hc⟩
  · subst hv hn
    have hsr : stl [] = [] := List.length_eq_zero_iff.1 (by rw [stl_len]; rfl)
    have HSR : Hid (stl ([] : List Ev) = []) := hsr
    clear hsr
    have hcs := sortS_any (B := w.heap.size) (l := []) (World.ownsRow_nil w _ _ _) (by simp)
    go_enter Tryz.func39, Tryz.ntmps39
    go_wp2
    refine wp_loop_rounds 1 ?_
    rw [rounds_succ]
    go_wp2_with fail
    refine hcs.mono ?_
    rintro e w1 ⟨rfl, ho, hgr⟩
    go_wp2
    go_ret
    refine ⟨_, rfl, ?_, ⟨hgr.os, hgr.tape, hgr.output, hgr.size, fun k hk => hgr.block k hk (by simp [Value.ownBlock])⟩⟩
    rw [List.filter_nil]
    exact ho
  · subst hv
    have HC : Hid _ := hc
    clear hc
    go_enter Tryz.func39, Tryz.ntmps39
    go_wp2
    go_loopw [3, 8] (fun u i wr => ∃ k : Nat, k ≤ l.length ∧ i = .int .i64 k ∧ Hid (wr.ownsRow w.heap.size 36 7 u ((l.take k).filter rtB).length (((l.take k).filter rtB).flatMap evC)) ∧ Below w.heap.size w wr) (fun _ i _ => l.length - (intOf i).toNat)
    case atStart => exact ⟨0, Nat.zero_le _, rfl, World.ownsRow_nil _ _ _ _, Below.refl _ _⟩
    case round =>
      obtain ⟨k, hk, rfl, HO, hb⟩ := hrel
      by_cases hlt : k < l.length
      · obtain ⟨x, hx⟩ : ∃ x, x = l[k] := ⟨_, rfl⟩
        have hcw : ∀ j, j < 7 → wr.cell? ⟨g, o + k * 7 + j, none⟩ = (evC x)[j]? := fun j hj => by
          rw [hb.cell (p := ⟨g, o + k * 7 + j, none⟩) hg, HC.out k j hlt hj, hx]
        have hxw : EvW x := by rw [hx]; exact HW.out _ (List.getElem_mem hlt)
        have hflen : ((l.take k).filter rtB).length ≤ 100000 := Nat.le_trans (List.length_filter_le ..) (by rw [List.length_take]; omega)
        have HT : Hid (l.take (k + 1) = l.take k ++ [x]) := by show _ = _; rw [List.take_succ_eq_append_getElem hlt, hx]
        obtain ⟨id, item, kind, qty, price, ofI, day⟩ := x
        have q0 := hcw 0 (by omega)
        have q1 := hcw 1 (by omega)
        have q2 := hcw 2 (by omega)
        have q3 := hcw 3 (by omega)
        have q4 := hcw 4 (by omega)
        have q5 := hcw 5 (by omega)
        have q6 := hcw 6 (by omega)
        simp only [evC, List.getElem?_cons_zero, List.getElem?_cons_succ, Nat.add_zero] at q0 q1 q2 q3 q4 q5 q6
        have hr := fun W => right_any ⟨id, item, kind, qty, price, ofI, day⟩ W hxw
        unfold evV at hr
        simp only at hr
        clear hcw hx
        go_wp2_with fail
        refine (hr _).mono ?_
        obtain ⟨W1, hW1⟩ : ∃ W, W = wr.alloc (.cells #[.int .i64 id, .string item, .int .i64 kind, .int .i64 qty, .int .i64 price, .int .i64 ofI, .int .i64 day] 36) := ⟨_, rfl⟩
        rw [← hW1]
        have hB1 : Below wr.heap.size wr W1 := by rw [hW1]; exact (Below.refl _ _).alloc (Nat.le_refl _) _
        have hE1 : EvAt W1 wr.heap.size ⟨id, item, kind, qty, price, ofI, day⟩ := by rw [hW1]; constructor <;> simp
        clear hW1
        rintro e w2 ⟨⟨b, rfl, hbb⟩, hb2⟩
        have hE2 := hE1.below hb2
        have hB2 : Below wr.heap.size wr w2 := hB1.trans (hb2.mono hB1.size)
        have hBw : Below w.heap.size w w2 := hb.trans (hB2.mono hb.size)
        have HO2 : Hid (w2.ownsRow w.heap.size 36 7 u3 ((l.take k).filter rtB).length (((l.take k).filter rtB).flatMap evC)) := own_below HO.out hB2 (Nat.le_refl _)
        have c0 := hE2.c0
        have c1 := hE2.c1
        have c2 := hE2.c2
        have c3 := hE2.c3
        have c4 := hE2.c4
        have c5 := hE2.c5
        have c6 := hE2.c6
        simp only at c0 c1 c2 c3 c4 c5 c6
        have hbt : rtB ⟨id, item, kind, qty, price, ofI, day⟩ = b := by
          have := rtB_iff ⟨id, item, kind, qty, price, ofI, day⟩
          cases b with
          | true => exact this.2 (hbb.1 rfl)
          | false => exact Bool.eq_false_iff.2 fun e => by have := hbb.2 (this.1 e); cases this
        have HBT : Hid (rtB ⟨id, item, kind, qty, price, ofI, day⟩ = b) := hbt
        clear hbt hbb q0 q1 q2 q3 q4 q5 q6 hr hb2 hE1 hE2 hB1
        cases b with
        | true =>
          go_wp2_with (first
            | (at_builtin; refine wpList_append_own _ rfl _ _ 29 rfl w.heap.size 36 i0 evZ 7 64 Tryz.underlying29 hi hz0 hz1 hz2 rfl (by decide) _ _ _ rfl (HO2.out.alloc _) ⟨w2.heap.size, 0, none⟩ 1 1 (evC ⟨id, item, kind, qty, price, ofI, day⟩) rfl rfl ?d1 ?d2 ?d3 ?d4 ?d5 ?_)
            | go_in)
          case d1 => exact cells_of_list rfl
          case d2 => exact evC_one _
          case d3 => unfold maxLen; omega
          case d4 => omega
          case d5 => have := hBw.size; simp; omega
          · intro v' w3 hown3 hgr _
            go_wp2
            go_roundw
            case rel =>
              refine ⟨k + 1, by omega, by go_num, ?_, ?_⟩
              · show World.ownsRow _ _ _ _ _ _ _
                rw [HT.out, List.filter_append]
                simp only [List.filter_cons, HBT.out, if_true, List.filter_nil, List.length_append, List.length_cons, List.length_nil, Nat.zero_add, List.flatMap_append, List.flatMap_cons, List.flatMap_nil, List.append_nil]
                exact hown3
              · exact (hBw.alloc (by have := hBw.size; omega) _).grown hgr (by have := hBw.size; simp; omega) (fun j hj => (HO2.out.lt j hj).1)
            case measure => simp [intOf]; omega
        | false =>
          go_wp2
          go_roundw
          case rel =>
            refine ⟨k + 1, by omega, by go_num, ?_, hBw⟩
            show World.ownsRow _ _ _ _ _ _ _
            rw [HT.out, List.filter_append]
            simp only [List.filter_cons, HBT.out, Bool.false_eq_true, if_false, List.filter_nil, List.append_nil]
            exact HO2.out
          case measure => simp [intOf]; omega
      · obtain rfl : k = l.length := by omega
        have ho := HO.out
        rw [List.take_length] at ho
        have hcs := sortS_any ho (by have := List.length_filter_le rtB l; omega)
        have hrow : ∀ j, u3.ownBlock = some j → w.heap.size ≤ j := fun j hj => (ho.lt j hj).1
        clear ho HO
        go_wp2_with fail
        refine hcs.mono ?_
        rintro e w3 ⟨rfl, ho3, hg3⟩
        go_wp2
        go_ret
        exact ⟨_, rfl, ho3, hb.grown hg3 hb.size hrow⟩
end Go.Proofs.YtcfgacdcgljbaaaGreat
