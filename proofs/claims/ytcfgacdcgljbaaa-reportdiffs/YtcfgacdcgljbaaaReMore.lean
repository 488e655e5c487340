/- The walk of ReportDiffs' 'more'. -/
import Derived.Test.YtcfgacdcgljbaaaReHold
import Derived.Test.YtcfgacdcgljbaaaReDiff
namespace Go.Proofs.Ytcfgacdcgljbaaa
open Go.RowKit Go.Maps Go.Shelf
open Classical in
noncomputable def mrQ (S : List ByteArray) (M N : Stks) (z : ByteArray) : Int := if z ∈ S then sumQ (M z).ys else sumQ (N z).ys
open Classical in
noncomputable def mrV (S : List ByteArray) (M N : Stks) (z : ByteArray) : Int := if z ∈ S then sumV (M z).ys else sumV (N z).ys
theorem mr_not {S : List ByteArray} {M N : Stks} {z : ByteArray} (h : z ∉ S) : mrQ S M N z = sumQ (N z).ys ∧ mrV S M N z = sumV (N z).ys := by
  unfold mrQ mrV; rw [if_neg h, if_neg h]; exact ⟨rfl, rfl⟩
theorem mr_in {S : List ByteArray} {M N : Stks} {z : ByteArray} (h : z ∈ S) : mrQ S M N z = sumQ (M z).ys ∧ mrV S M N z = sumV (M z).ys := by
  unfold mrQ mrV; rw [if_pos h, if_pos h]; exact ⟨rfl, rfl⟩
theorem mr_snoc {S : List ByteArray} {x : ByteArray} (hx : x ∉ S) (M N : Stks) (z : ByteArray) : (if z = x then mrQ S M N x + dfQ M N x else mrQ S M N z) = mrQ (S ++ [x]) M N z ∧ (if z = x then mrV S M N x + dfV M N x else mrV S M N z) = mrV (S ++ [x]) M N z := by
  by_cases e : z = x
  · subst e
    rw [if_pos rfl, if_pos rfl, (mr_not hx).1, (mr_not hx).2, (mr_in (S := S ++ [z]) (by simp)).1, (mr_in (S := S ++ [z]) (by simp)).2]
    unfold dfQ dfV
    exact ⟨by omega, by omega⟩
  · rw [if_neg e, if_neg e]
    by_cases e2 : z ∈ S
    · rw [(mr_in e2).1, (mr_in e2).2, (mr_in (S := S ++ [x]) (by simp [e2])).1, (mr_in (S := S ++ [x]) (by simp [e2])).2]; exact ⟨rfl, rfl⟩
    · rw [(mr_not e2).1, (mr_not e2).2, (mr_not (S := S ++ [x]) (by simp [e, e2])).1, (mr_not (S := S ++ [x]) (by simp [e, e2])).2]; exact ⟨rfl, rfl⟩
theorem mr_all {M N : Stks} {cs : List ByteArray} (hk : Keys (fun z => dfQ M N z ≠ 0 ∨ dfV M N z ≠ 0) cs) (z : ByteArray) : mrQ cs M N z = sumQ (M z).ys ∧ mrV cs M N z = sumV (M z).ys := by
  by_cases e : z ∈ cs
  · exact mr_in e
  · have h1 : ¬ (dfQ M N z ≠ 0 ∨ dfV M N z ≠ 0) := fun c => e ((hk.mem z).2 c)
    rw [(mr_not e).1, (mr_not e).2]
    unfold dfQ dfV at h1
    exact ⟨by omega, by omega⟩
theorem gr_below {w a b : World} {o : Option Nat} (h : Below w.heap.size w a) (g : a.grownBy b o) : w.grownBy b o :=
  ⟨g.os.trans h.os, g.tape.trans h.tape, g.output.trans h.output, Nat.le_trans h.size g.size, fun j hj hne => (g.block j (Nat.lt_of_lt_of_le hj h.size) hne).trans (h.block j hj)⟩
theorem gr_trans {w a b : World} {o : Option Nat} (h : w.grownBy a o) (g : a.grownBy b o) : w.grownBy b o :=
  ⟨g.os.trans h.os, g.tape.trans h.tape, g.output.trans h.output, Nat.le_trans h.size g.size, fun j hj hne => (g.block j (Nat.lt_of_lt_of_le hj h.size) hne).trans (h.block j hj hne)⟩
theorem gr_refl (w : World) (o : Option Nat) : w.grownBy w o := ⟨rfl, rfl, rfl, Nat.le_refl _, fun _ _ _ => rfl⟩
theorem gr_then {w a b : World} {o : Option Nat} (h : w.grownBy a o) (g : Below a.heap.size a b) : w.grownBy b o :=
  ⟨g.os.trans h.os, g.tape.trans h.tape, g.output.trans h.output, Nat.le_trans h.size g.size, fun j hj hne => (g.block j (Nat.lt_of_lt_of_le hj h.size)).trans (h.block j hj hne)⟩
theorem gr_cell {w a : World} {mb : Nat} (h : w.grownBy a (some mb)) {p : Addr} (hp : p.block < w.heap.size) (hn : p.block ≠ mb) : a.cell? p = w.cell? p := World.cell?_of_block (h.block _ hp (fun e => hn (by cases e; rfl)))
theorem cs_len {M N : Stks} {b : Bk} {n t1 t2 : Int} (hM : M = stUp b n t2) (hN : N = stUp b n t1) {cs : List ByteArray} (hk : Keys (fun z => dfQ M N z ≠ 0 ∨ dfV M N z ≠ 0) cs) : (∀ x ∈ cs, x.size ≤ maxLen) ∧ cs.length ≤ b.vs.length + b.vs.length := by
  have key : ∀ x ∈ cs, x ∈ (ordd (evUp b n t2)).map (·.item) ++ (ordd (evUp b n t1)).map (·.item) := fun x hx => by
    have h1 := (hk.mem x).1 hx
    by_cases c2 : (M x).ys = []
    · by_cases c1 : (N x).ys = []
      · have e1 := st_zero c1
        have e2 := st_zero c2
        unfold dfQ dfV at h1
        omega
      · rw [hN] at c1
        obtain ⟨e, he, rfl⟩ := some_item c1
        exact List.mem_append_right _ (List.mem_map_of_mem he)
    · rw [hM] at c2
      obtain ⟨e, he, rfl⟩ := some_item c2
      exact List.mem_append_left _ (List.mem_map_of_mem he)
  refine ⟨fun x hx => ?_, ?_⟩
  · rcases List.mem_append.1 (key x hx) with h | h
    all_goals
      obtain ⟨e, he, rfl⟩ := List.mem_map.1 h
      have h1 := (ordd_rt _ e he).1.1.2
      rw [eba_len] at h1
      unfold maxLen; omega
  · have h1 := nodup_le cs _ hk.nodup key
    rw [List.length_append, List.length_map, List.length_map] at h1
    have := ordd_len (evUp b n t2)
    have := ordd_len (evUp b n t1)
    have := evUp_len b n t1
    have := evUp_len b n t2
    omega
set_option maxRecDepth 20000 in
set_option maxHeartbeats 8000000 in
theorem more_any {B pb : Nat} {sv : Value} {b : Bk} {w : World} (h : BookAt w B pb sv b) (hl : b.vs.length ≤ 1000) (n t1 t2 : Int) (hw1 : ∀ e ∈ evUp b n t1, EvW e) (hw2 : ∀ e ∈ evUp b n t2, EvW e) (cb cn ca : Nat)
    (hcb : w.cell? ⟨cb, 0, none⟩ = some (.pointer (some ⟨pb, 0, none⟩))) (hcn : w.cell? ⟨cn, 0, none⟩ = some (.int .i64 n)) (hca : w.cell? ⟨ca, 0, none⟩ = some (.func (.func 9) #[] #[]))
    {mb m0 : Nat} {D0 : DataW Value} (hne : ca ≠ mb) (hm0 : m0 ≤ 100000) (hpm0 : PM w mb m0 D0 (fun z => sumQ (stUp b n t1 z).ys) (fun z => sumV (stUp b n t1 z).ys)) :
    Calls Try.prog 12 #[.map (some mb), .int .i64 t1, .int .i64 t2, .pointer (some ⟨cb, 0, none⟩), .pointer (some ⟨cn, 0, none⟩), .pointer (some ⟨ca, 0, none⟩)] w fun r w' => r = .returned (.tuple #[]) ∧ (∃ (m : Nat) (D : DataW Value), m ≤ m0 + 2000 ∧ PM w' mb m D (fun z => sumQ (stUp b n t2 z).ys) (fun z => sumV (stUp b n t2 z).ys)) ∧ w.grownBy w' (some mb) := by
  have mixed : Try.prog.follows .mixedOrders = true := by kernel_rfl
  have hdf := rediff_any h hl n t1 t2 hw1 hw2
  have la : ca < w.heap.size := World.block_lt_of_cell? _ _ hca
  have lm : mb < w.heap.size := PMap.lt hpm0
  obtain ⟨M, hM⟩ : ∃ M, M = stUp b n t2 := ⟨_, rfl⟩
  obtain ⟨N, hN⟩ : ∃ N, N = stUp b n t1 := ⟨_, rfl⟩
  have HOKM : Hid (∀ x, StkOK 1000 (M x)) := fun x => by rw [hM]; exact stUp_ok b n t2 hl x
  have HOKN : Hid (∀ x, StkOK 1000 (N x)) := fun x => by rw [hN]; exact stUp_ok b n t1 hl x
  have hcsl := @cs_len M N b n t1 t2 hM hN
  rw [← hM, ← hN] at hdf
  rw [← hN] at hpm0
  rw [← hM]
  have HCA := hidE hca
  have HP0 := hidE hpm0
  clear hM hN h hca hpm0
  go_enter Try.func12, Try.ntmps12
  go_wp2_with fail
  refine hdf.mono ?_
  rintro r w1 ⟨v1, cs, rfl, hcs, hown1, hb1⟩
  obtain ⟨ad1, cp1, hv1⟩ := own_lenN hown1
  subst hv1
  have hcl := hcsl hcs
  clear hdf hcsl hcb hcn
  have HISZ := hidE hcl.1
  have hcl2 := hcl.2
  have HCS := hidE hcs
  have HO1 := hidE hown1
  have HB1 := hidE hb1
  have hs1 := hb1.size
  have HM1 : Hid (PM w1 mb m0 D0 (mrQ (cs.take 0) M N) (mrV (cs.take 0) M N)) := PM.ext (PMap.below HP0.out hb1) (fun z => by rw [List.take_zero, (mr_not (by simp)).1]) (fun z => by rw [List.take_zero, (mr_not (by simp)).2])
  clear hcl hcs hown1 hb1 HP0
  go_wp2
  go_loopw [10] (fun i wr => ∃ (k m : Nat) (D : DataW Value), k ≤ cs.length ∧ i = .int .i64 k ∧ m ≤ m0 + k ∧ Hid (PM wr mb m D (mrQ (cs.take k) M N) (mrV (cs.take k) M N)) ∧ Hid (w1.grownBy wr (some mb))) (fun i _ => cs.length - (intOf i).toNat)
  case atStart => exact ⟨0, m0, D0, Nat.zero_le _, rfl, Nat.le_refl _, HM1, gr_refl _ _⟩
  case round =>
    obtain ⟨k, m, D, hk, rfl, hm, HM, HSB⟩ := hrel
    have hsb := HSB.out.size
    by_cases hlt : k < cs.length
    · rcases own_form HO1.out with ⟨_, e2, _⟩ | ⟨g, cp, e1, hgB, hgl, _⟩
      · rw [e2] at hlt; exact absurd hlt (Nat.not_lt_zero _)
      · simp only [Value.slice.injEq] at e1
        obtain ⟨rfl, _, rfl⟩ := e1
        have hgm : g ≠ mb := by omega
        obtain ⟨x, hx⟩ : ∃ x, x = cs[k] := ⟨_, rfl⟩
        have q0 := (gr_cell HSB.out (p := ⟨g, k * 3 + 0, none⟩) hgl hgm).trans (own_cell (m := 3) (fun _ => rfl) HO1.out k 0 hlt (by omega)).1
        have q1 := (gr_cell HSB.out (p := ⟨g, k * 3 + 1, none⟩) hgl hgm).trans (own_cell (m := 3) (fun _ => rfl) HO1.out k 1 hlt (by omega)).1
        have q2 := (gr_cell HSB.out (p := ⟨g, k * 3 + 2, none⟩) hgl hgm).trans (own_cell (m := 3) (fun _ => rfl) HO1.out k 2 hlt (by omega)).1
        rw [← hx] at q0 q1 q2
        simp only [dfC, List.getElem?_cons_zero, List.getElem?_cons_succ, Nat.add_zero] at q0 q1 q2
        have hxm : x ∈ cs := by rw [hx]; exact List.getElem_mem hlt
        have hxs : x.size ≤ maxLen := HISZ.out x hxm
        have HTK : Hid (cs.take (k + 1) = cs.take k ++ [x]) := by show _ = _; rw [hx]; exact List.take_succ_eq_append_getElem hlt
        have HNI : Hid (x ∉ cs.take k) := by
          have h1 := HCS.out.nodup.sublist (List.take_sublist (k + 1) cs)
          rw [HTK.out] at h1
          exact fun c => (List.nodup_append.1 h1).2.2 x c x (by simp) rfl
        have hbdM := st_bd (HOKM.out x)
        have hbdN := st_bd (HOKN.out x)
        have kf := (gr_cell HSB.out (p := ⟨ca, 0, none⟩) (show ca < w1.heap.size by omega) hne).trans ((HB1.out.cell (p := ⟨ca, 0, none⟩) la).trans HCA.out)
        obtain ⟨W, hW⟩ : ∃ W, W = wr.drew := ⟨_, rfl⟩
        have hbW : Below wr.heap.size wr W := by rw [hW]; exact below_drew _
        have hz := mr_not (M := M) (N := N) HNI.out
        have hdq : dfQ M N x = sumQ (M x).ys - sumQ (N x).ys := rfl
        have hdv : dfV M N x = sumV (M x).ys - sumV (N x).ys := rfl
        have HADD := add_any (PMap.below HM.out hbW) (by omega) x hxs (dfQ M N x) (dfV M N x) (by omega) (by omega) (by omega) (by omega) (by omega) (by omega) (by omega) (by omega)
        have g0 := fun n : Up W => n.cell ((hbW.cell (p := ⟨g, k * 3, none⟩) (show g < wr.heap.size by omega)).trans q0)
        have g1 := fun n : Up W => n.cell ((hbW.cell (p := ⟨g, k * 3 + 1, none⟩) (show g < wr.heap.size by omega)).trans q1)
        have g2 := fun n : Up W => n.cell ((hbW.cell (p := ⟨g, k * 3 + 2, none⟩) (show g < wr.heap.size by omega)).trans q2)
        have gf := fun n : Up W => n.cell ((hbW.cell (p := ⟨ca, 0, none⟩) (show ca < wr.heap.size by omega)).trans kf)
        have hU := up_ne
        have hA := anyW_ne
        have HBW := hidE hbW
        clear hx q0 q1 q2 kf hz hbW hdq hdv
        go_wp2_with fail
        refine wp_region_turn [(.read, 0), (.pure, 1), (.pure, 2), (.pure, 3), (.pure, 4), (.pure, 5), (.read, 6), (.pure, 7), (.pure, 8), (.pure, 9), (.pure, 10), (.read, 11), (.pure, 12), (.pure, 13), (.pure, 14), (.pure, 15), (.read, 16), (.turn, 17)] (by kernel_rfl) (by kernel_rfl) ?_
        rw [← hW]
        have HWD := hidE hW
        clear hW
        repeat (first | refine turn_p rfl ?_ | refine turn_q rfl ?_); go_big_quiet_step (fail); refine wpQuiet_nil ?_
        refine turn_t rfl ?_
        go_wp2_with fail
        refine HADD.mono ?_
        rintro r w2 ⟨rfl, ⟨m', D', hm', hpm⟩, hg2⟩
        have HM3 : Hid (PM w2 mb m' D' (mrQ (cs.take (k + 1)) M N) (mrV (cs.take (k + 1)) M N)) := by
          show PM _ _ _ _ _ _
          rw [HTK.out]
          exact hpm.ext (fun z => (mr_snoc HNI.out M N z).1) (fun z => (mr_snoc HNI.out M N z).2)
        have HSB3 : Hid (w1.grownBy w2 (some mb)) := gr_trans (gr_then HSB.out HBW.out) hg2
        clear HADD hpm hg2 g0 g1 g2 gf hU hA
        go_wp2_with fail
        refine ⟨rfl, ?_⟩
        refine turn_nil ?_
        go_wp2
        go_roundw
        case rel => exact ⟨k + 1, m', D', by omega, by go_num, by omega, HM3, HSB3⟩
        case measure => simp [intOf]; omega
    · have hk2 : k = cs.length := by omega
      subst hk2
      rw [List.take_length] at HM
      have HM3 : Hid (PM wr mb m D (fun z => sumQ (M z).ys) (fun z => sumV (M z).ys)) := PM.ext HM.out (fun z => (mr_all HCS.out z).1) (fun z => (mr_all HCS.out z).2)
      have HG : Hid (w.grownBy wr (some mb)) := gr_below HB1.out HSB.out
      go_wp2
      go_end0
      exact ⟨rfl, ⟨m, D, by omega, HM3.out⟩, HG.out⟩
end Go.Proofs.Ytcfgacdcgljbaaa
