/- The walk of ReportDiffs' 'hold'. -/
import Derived.Test.YtcfgacdcgljbaaaBnO
import Derived.Test.YtcfgacdcgljbaaaBnP
import Derived.Test.YtcfgacdcgljbaaaBnB
namespace Go.Proofs.Ytcfgacdcgljbaaa
open Go.RowKit Go.Maps Go.Shelf
open Classical in
noncomputable def hdQ (S : List ByteArray) (M : Stks) (z : ByteArray) : Int := if z ∈ S then sumQ (M z).ys else 0
open Classical in
noncomputable def hdV (S : List ByteArray) (M : Stks) (z : ByteArray) : Int := if z ∈ S then sumV (M z).ys else 0
theorem hd_not {S : List ByteArray} {M : Stks} {z : ByteArray} (h : z ∉ S) : hdQ S M z = 0 ∧ hdV S M z = 0 := by
  unfold hdQ hdV; rw [if_neg h, if_neg h]; exact ⟨rfl, rfl⟩
theorem hd_in {S : List ByteArray} {M : Stks} {z : ByteArray} (h : z ∈ S) : hdQ S M z = sumQ (M z).ys ∧ hdV S M z = sumV (M z).ys := by
  unfold hdQ hdV; rw [if_pos h, if_pos h]; exact ⟨rfl, rfl⟩
theorem hd_snoc {S : List ByteArray} {x : ByteArray} (hx : x ∉ S) (M : Stks) (z : ByteArray) : (if z = x then hdQ S M x + sumQ (M x).ys else hdQ S M z) = hdQ (S ++ [x]) M z ∧ (if z = x then hdV S M x + sumV (M x).ys else hdV S M z) = hdV (S ++ [x]) M z := by
  by_cases e : z = x
  · subst e
    rw [if_pos rfl, if_pos rfl, (hd_not hx).1, (hd_not hx).2, (hd_in (S := S ++ [z]) (by simp)).1, (hd_in (S := S ++ [z]) (by simp)).2, Int.zero_add, Int.zero_add]
    exact ⟨rfl, rfl⟩
  · rw [if_neg e, if_neg e]
    by_cases e2 : z ∈ S
    · rw [(hd_in e2).1, (hd_in e2).2, (hd_in (S := S ++ [x]) (by simp [e2])).1, (hd_in (S := S ++ [x]) (by simp [e2])).2]; exact ⟨rfl, rfl⟩
    · rw [(hd_not e2).1, (hd_not e2).2, (hd_not (S := S ++ [x]) (by simp [e, e2])).1, (hd_not (S := S ++ [x]) (by simp [e, e2])).2]; exact ⟨rfl, rfl⟩
theorem PM.ext {W : World} {mb n : Nat} {D : DataW Value} {q v q' v' : ByteArray → Int} (h : PM W mb n D q v) (hq : ∀ x, q x = q' x) (hv : ∀ x, v x = v' x) : PM W mb n D q' v' := PMap.ext h hq hv (fun x => by rw [hq, hv])
theorem hd_all {M : Stks} {ks : List ByteArray} (hk : Keys (fun x => (M x).ys ≠ []) ks) (z : ByteArray) : hdQ ks M z = sumQ (M z).ys ∧ hdV ks M z = sumV (M z).ys := by
  by_cases e : z ∈ ks
  · exact hd_in e
  · have := st_zero (s := M z) (Classical.byContradiction fun c => e ((hk.mem z).2 c))
    rw [(hd_not e).1, (hd_not e).2, this.1, this.2]; exact ⟨rfl, rfl⟩
set_option maxRecDepth 20000 in
set_option maxHeartbeats 8000000 in
theorem hold_any {B pb : Nat} {sv : Value} {b : Bk} {w : World} (h : BookAt w B pb sv b) (hl : b.vs.length ≤ 1000) (n t : Int) (hw : ∀ e ∈ evUp b n t, EvW e) (cb cn ca : Nat)
    (hcb : w.cell? ⟨cb, 0, none⟩ = some (.pointer (some ⟨pb, 0, none⟩))) (hcn : w.cell? ⟨cn, 0, none⟩ = some (.int .i64 n)) (hca : w.cell? ⟨ca, 0, none⟩ = some (.func (.func 9) #[] #[])) :
    Calls Try.prog 10 #[.int .i64 t, .pointer (some ⟨cb, 0, none⟩), .pointer (some ⟨cn, 0, none⟩), .pointer (some ⟨ca, 0, none⟩)] w fun r w' => ∃ (mb m : Nat) (D : DataW Value), r = .returned (.map (some mb)) ∧ w.heap.size ≤ mb ∧ m ≤ 10000 ∧ PM w' mb m D (fun z => sumQ (stUp b n t z).ys) (fun z => sumV (stUp b n t z).ys) ∧ Below w.heap.size w w' := by
  have hmm := @run_makeMap Try.prog
  have mixed : Try.prog.follows .mixedOrders = true := by kernel_rfl
  obtain ⟨W0, hW0⟩ : ∃ W, W = w.alloc (.map #[] 0) := ⟨_, rfl⟩
  have hb0 : Below w.heap.size w W0 := by rw [hW0]; exact (Below.refl _ _).alloc (Nat.le_refl _) _
  have hm0 : PMap W0 w.heap.size 0 (.map []) (fun _ => 0) (fun _ => 0) (fun _ => False) := by rw [hW0]; exact pmap_new w
  have hat := reat_any (h.below hb0) hl n t hw
  have lb : cb < w.heap.size := World.block_lt_of_cell? _ _ hcb
  have ln : cn < w.heap.size := World.block_lt_of_cell? _ _ hcn
  have la : ca < w.heap.size := World.block_lt_of_cell? _ _ hca
  have kb := (hb0.cell (p := ⟨cb, 0, none⟩) lb).trans hcb
  have kn := (hb0.cell (p := ⟨cn, 0, none⟩) ln).trans hcn
  have HW0 := hidE hW0
  have HCA := hidE hca
  rw [hW0] at kb kn
  clear hW0 h hcb hcn hca
  go_enter Try.func10, Try.ntmps10
  go_wp2_with fail
  rw [← HW0.out]
  refine hat.mono ?_
  rintro r w1 ⟨v1, ks, rfl, hks, hown1, hb1⟩
  obtain ⟨ad1, cp1, hv1⟩ := own_lenN hown1
  subst hv1
  clear hat kb kn
  obtain ⟨M, hM⟩ : ∃ M, M = goS stk00 (ordd (evUp b n t)) := ⟨_, rfl⟩
  have HMU : Hid (stUp b n t = M) := hM.symm
  have HOKM : Hid (∀ x, StkOK 1000 (M x)) := fun x => by rw [← HMU.out]; exact stUp_ok b n t hl x
  have hkl : ks.length ≤ 1000 := by
    have h1 := keys_len hks
    have h2 := evUp_len b n t
    omega
  have hisz : ∀ x ∈ ks, x.size ≤ maxLen := fun x hx => by
    obtain ⟨e, he, rfl⟩ := some_item ((hks.mem x).1 hx)
    have h1 := (ordd_rt _ e he).1.1.2
    rw [eba_len] at h1
    unfold maxLen; omega
  rw [← hM] at hown1 hks
  have hs0 : W0.heap.size = w.heap.size + 1 := by rw [HW0.out]; simp
  have hs1 := hb1.size
  have hmb : w.heap.size < w1.heap.size := by omega
  have HISZ := hidE hisz
  have HKS := hidE hks
  have HO1 := hidE hown1
  have HM1 : Hid (PM w1 w.heap.size 0 (.map []) (hdQ (ks.take 0) M) (hdV (ks.take 0) M)) := by
    have h1 := hm0.below hb1
    exact ⟨h1.map, fun x => by rw [h1.at_, List.take_zero, (hd_not (by simp)).1, (hd_not (by simp)).2], fun x => by rw [h1.has_, List.take_zero, (hd_not (by simp)).1, (hd_not (by simp)).2]; simp⟩
  have HS0 := hidE hs0
  have HB1 : Hid (Below w.heap.size w w1) := hb0.trans (hb1.mono hb0.size)
  clear hisz hks hown1 hm0 hb1 hb0 hs0 hM hs1
  go_wp2
  go_loopw [8] (fun i wr => ∃ (k m : Nat) (D : DataW Value), k ≤ ks.length ∧ i = .int .i64 k ∧ m ≤ k ∧ Hid (PM wr w.heap.size m D (hdQ (ks.take k) M) (hdV (ks.take k) M)) ∧ Hid (Below w.heap.size w wr) ∧ Hid (SameBut w.heap.size w1 wr)) (fun i _ => ks.length - (intOf i).toNat)
  case atStart => exact ⟨0, 0, _, Nat.zero_le _, rfl, Nat.le_refl _, HM1, HB1, SameBut.refl _ _⟩
  case round =>
    obtain ⟨k, m, D, hk, rfl, hm, HM, HB, HSB⟩ := hrel
    have hsb := HSB.out.size
    by_cases hlt : k < ks.length
    · rcases own_form HO1.out with ⟨_, e2, _⟩ | ⟨g, cp, e1, hgB, hgl, _⟩
      · rw [e2] at hlt; exact absurd hlt (Nat.not_lt_zero _)
      · simp only [Value.slice.injEq] at e1
        obtain ⟨rfl, _, rfl⟩ := e1
        have hgm : g ≠ w.heap.size := by have := HS0.out; omega
        obtain ⟨x, hx⟩ : ∃ x, x = ks[k] := ⟨_, rfl⟩
        have q0 := (HSB.out.cell (p := ⟨g, k * 3 + 0, none⟩) hgl hgm).trans (own_cell (m := 3) (fun _ => rfl) HO1.out k 0 hlt (by omega)).1
        have q1 := (HSB.out.cell (p := ⟨g, k * 3 + 1, none⟩) hgl hgm).trans (own_cell (m := 3) (fun _ => rfl) HO1.out k 1 hlt (by omega)).1
        have q2 := (HSB.out.cell (p := ⟨g, k * 3 + 2, none⟩) hgl hgm).trans (own_cell (m := 3) (fun _ => rfl) HO1.out k 2 hlt (by omega)).1
        rw [← hx] at q0 q1 q2
        simp only [holdC, List.getElem?_cons_zero, List.getElem?_cons_succ, Nat.add_zero] at q0 q1 q2
        have hxm : x ∈ ks := by rw [hx]; exact List.getElem_mem hlt
        have hxs : x.size ≤ maxLen := HISZ.out x hxm
        have HTK : Hid (ks.take (k + 1) = ks.take k ++ [x]) := by show _ = _; rw [hx]; exact List.take_succ_eq_append_getElem hlt
        have HNI : Hid (x ∉ ks.take k) := by
          have h1 := HKS.out.nodup.sublist (List.take_sublist (k + 1) ks)
          rw [HTK.out] at h1
          exact fun c => (List.nodup_append.1 h1).2.2 x c x (by simp) rfl
        have hbd := st_bd (HOKM.out x)
        have kf := (HB.out.cell (p := ⟨ca, 0, none⟩) la).trans HCA.out
        obtain ⟨W, hW⟩ : ∃ W, W = wr.drew := ⟨_, rfl⟩
        have hbW : Below wr.heap.size wr W := by rw [hW]; exact below_drew _
        have hz := hd_not (M := M) HNI.out
        have HADD := add_any (PMap.below HM.out hbW) (by omega) x hxs (sumQ (M x).ys) (sumV (M x).ys) (by omega) (by omega) (by omega) (by omega) (by omega) (by omega) (by omega) (by omega)
        have g0 := fun n : Up W => n.cell ((hbW.cell (p := ⟨g, k * 3, none⟩) (show g < wr.heap.size by omega)).trans q0)
        have g1 := fun n : Up W => n.cell ((hbW.cell (p := ⟨g, k * 3 + 1, none⟩) (show g < wr.heap.size by omega)).trans q1)
        have g2 := fun n : Up W => n.cell ((hbW.cell (p := ⟨g, k * 3 + 2, none⟩) (show g < wr.heap.size by omega)).trans q2)
        have gf := fun n : Up W => n.cell ((hbW.cell (p := ⟨ca, 0, none⟩) (show ca < wr.heap.size by have := HB.out.size; omega)).trans kf)
        have hU := up_ne
        have hA := anyW_ne
        have HBW := hidE hbW
        clear hx q0 q1 q2 kf hz hbW
        go_wp2_with fail
        refine wp_region_turn [(.read, 0), (.pure, 1), (.pure, 2), (.pure, 3), (.pure, 4), (.pure, 5), (.read, 6), (.pure, 7), (.pure, 8), (.pure, 9), (.pure, 10), (.read, 11), (.pure, 12), (.pure, 13), (.pure, 14), (.pure, 15), (.read, 16), (.turn, 17)] (by kernel_rfl) (by kernel_rfl) ?_
        rw [← hW]
        have HWD := hidE hW
        clear hW
        repeat (first | refine turn_p rfl ?_ | refine turn_q rfl ?_); go_big_quiet_step (fail); refine wpQuiet_nil ?_
        refine turn_t rfl ?_
        go_wp2_with fail
        refine HADD.mono ?_
        rintro r w2 ⟨rfl, ⟨m', D', hm', hpm⟩, hg2⟩
        have HM3 : Hid (PM w2 w.heap.size m' D' (hdQ (ks.take (k + 1)) M) (hdV (ks.take (k + 1)) M)) := by
          show PM _ _ _ _ _ _
          rw [HTK.out]
          exact hpm.ext (fun z => (hd_snoc HNI.out M z).1) (fun z => (hd_snoc HNI.out M z).2)
        have hsw := HB.out.size
        have hb3 := HB.out.trans (HBW.out.mono hsw)
        have HB3 : Hid (Below w.heap.size w w2) := hb3.grown hg2 hb3.size (fun j e => by cases e; exact Nat.le_refl _)
        have HSB3 : Hid (SameBut w.heap.size w1 w2) := (HSB.out.below HBW.out).grown hg2
        clear HADD hpm hg2 hb3 g0 g1 g2 gf hU hA
        go_wp2_with fail
        refine ⟨rfl, ?_⟩
        refine turn_nil ?_
        go_wp2
        go_roundw
        case rel => exact ⟨k + 1, m', D', by omega, by go_num, by omega, HM3, HB3, HSB3⟩
        case measure => simp [intOf]; omega
    · have hk2 : k = ks.length := by omega
      subst hk2
      rw [List.take_length] at HM
      have HM3 : Hid (PM wr w.heap.size m D (fun z => sumQ (M z).ys) (fun z => sumV (M z).ys)) := PM.ext HM.out (fun z => (hd_all HKS.out z).1) (fun z => (hd_all HKS.out z).2)
      go_wp2
      go_ret
      refine ⟨w.heap.size, m, D, rfl, Nat.le_refl _, by omega, ?_, HB.out⟩
      rw [HMU.out]
      exact HM3.out
end Go.Proofs.Ytcfgacdcgljbaaa
