/- The walks of slices.IndexFunc and slices.ContainsFunc at events, and of tallymankeep.held. The walk of tallymankeep.numbered. What the statements on costs use of the order and of events that are numbered. No walk. The row of events, and numbered ones, in plain mathematics. No walk. -/
import Derived.Test.YtmldaiofghpfdaaGreatDoorCoRun
namespace Go.Proofs.YtmldaiofghpfdaaGreatDoor
open Go.RowKit Go.Shelf
set_option maxHeartbeats 1000000 in
theorem idx_ev (l : List Ev) (ao : Option Addr) (cap : Nat) (w : World) (h : EvsC w ao l) (hl : l.length ≤ 1000000) (f : Nat) (lb : Array Value) (p : Ev → Bool) (ef : ∀ args w, (callFunc f args).run Tryz.prog w = .ok (.enter f args) w)
    (hf : ∀ (e : Ev) (W : World), Below w.heap.size w W → Calls Tryz.prog f (#[evV e] ++ lb) W fun r w' => r = .returned (.bool (p e)) ∧ Below W.heap.size W w') :
    Calls Tryz.prog 83 #[.slice ao l.length cap, .func (.func f) #[] lb] w fun r w' => ∃ i : Int, r = .returned (.int .i64 i) ∧ Found p l i ∧ Below w.heap.size w w' := by
  have HF : Hid (∀ (e : Ev) (W : World), Below w.heap.size w W → Calls Tryz.prog f (#[evV e] ++ lb) W fun r w' => r = .returned (.bool (p e)) ∧ Below W.heap.size W w') := hf
  have HL : Hid (EvsC w ao l) := h
  clear hf h
  go_enter Tryz.func83, Tryz.ntmps83
  go_wp2
  go_loopw [8] (fun i wr => ∃ k : Nat, k ≤ l.length ∧ i = .int .i64 k ∧ Hid (∀ j (hj : j < l.length), j < k → p l[j] = false) ∧ Below w.heap.size w wr) (fun i _ => l.length - (intOf i).toNat)
  case atStart => exact ⟨0, Nat.zero_le _, rfl, fun j _ hj => absurd hj (Nat.not_lt_zero _), Below.refl _ _⟩
  case round =>
    obtain ⟨k, hk, rfl, HN, hb⟩ := hrel
    by_cases hlt : k < l.length
    · obtain ⟨g, o, hao, hg, hc⟩ := HL.out.below hb (by omega)
      subst hao
      obtain ⟨x, hx⟩ : ∃ x, x = l[k] := ⟨_, rfl⟩
      have hcw : ∀ j, j < 7 → wr.cell? ⟨g, o + k * 7 + j, none⟩ = (evC x)[j]? := fun j hj => by rw [hc k hlt j hj, hx]
      have HY : Hid (l[k] = x) := hx.symm
      have hcall := HF.out x wr hb
      unfold evV at hcall
      obtain ⟨id, item, kind, qty, price, ofI, day⟩ := x
      have q0 := hcw 0 (by omega)
      have q1 := hcw 1 (by omega)
      have q2 := hcw 2 (by omega)
      have q3 := hcw 3 (by omega)
      have q4 := hcw 4 (by omega)
      have q5 := hcw 5 (by omega)
      have q6 := hcw 6 (by omega)
      simp only [evC, List.getElem?_cons_zero, List.getElem?_cons_succ, Nat.add_zero] at q0 q1 q2 q3 q4 q5 q6
      simp only at hcall
      clear hcw hc hx
      generalize hpv : p ⟨id, item, kind, qty, price, ofI, day⟩ = pv at hcall
      have HPV : Hid (p l[k] = pv) := by rw [HY.out]; exact hpv
      clear hpv
      go_wp2_with fail
      refine hcall.mono ?_
      rintro e w1 ⟨rfl, hb1⟩
      have hb2 : Below w.heap.size w w1 := hb.trans (hb1.mono hb.size)
      clear hcall q0 q1 q2 q3 q4 q5 q6
      cases pv with
      | true =>
        go_wp2
        go_ret
        exact ⟨k, rfl, Or.inr ⟨k, hlt, rfl, HPV.out, HN.out⟩, hb2⟩
      | false =>
        go_wp2
        go_roundw
        case rel =>
          refine ⟨k + 1, by omega, by go_num, fun j hj hjk => ?_, hb2⟩
          rcases Nat.lt_or_eq_of_le (Nat.le_of_lt_succ hjk) with x | x
          · exact HN.out j hj x
          · subst x; exact HPV.out
        case measure => simp [intOf]; omega
    · obtain rfl : k = l.length := by omega
      go_wp2
      go_ret
      exact ⟨-1, rfl, Or.inl ⟨rfl, fun y hy => by
        obtain ⟨j, hj, rfl⟩ := List.getElem_of_mem hy
        exact HN.out j hj hj⟩, hb⟩
theorem Found.any {α : Type} {p : α → Bool} {l : List α} {r : Int} (h : Found p l r) : l.any p = decide (0 ≤ r) := by
  rcases h with ⟨rfl, h⟩ | ⟨k, hk, rfl, h, _⟩
  · rw [show decide ((0 : Int) ≤ -1) = false from rfl, List.any_eq_false]
    intro y hy
    rw [h y hy]; simp
  · rw [show decide ((0 : Int) ≤ (k : Int)) = true by simp, List.any_eq_true]
    exact ⟨_, List.getElem_mem hk, h⟩
set_option maxHeartbeats 1000000 in
theorem cont_ev (l : List Ev) (ao : Option Addr) (cap : Nat) (w : World) (h : EvsC w ao l) (hl : l.length ≤ 1000000) (f : Nat) (lb : Array Value) (p : Ev → Bool) (ef : ∀ args w, (callFunc f args).run Tryz.prog w = .ok (.enter f args) w)
    (hf : ∀ (e : Ev) (W : World), Below w.heap.size w W → Calls Tryz.prog f (#[evV e] ++ lb) W fun r w' => r = .returned (.bool (p e)) ∧ Below W.heap.size W w') :
    Calls Tryz.prog 58 #[.slice ao l.length cap, .func (.func f) #[] lb] w fun r w' => r = .returned (.bool (l.any p)) ∧ Below w.heap.size w w' := by
  have hix := idx_ev l ao cap w h hl f lb p ef hf
  clear hf
  go_enter Tryz.func58, Tryz.ntmps58
  go_wp2_with fail
  refine hix.mono ?_
  rintro e w1 ⟨i, rfl, hfd, hb⟩
  have ha := hfd.any
  have HA : Hid (l.any p = decide (0 ≤ i)) := ha
  clear ha hfd hix
  go_wp2
  go_ret
  exact ⟨by rw [HA.out]; rfl, hb⟩
theorem held1_any (e : Ev) (W : World) : Calls Tryz.prog 59 (#[evV e] ++ #[]) W fun r w' => r = .returned (.bool (decide (60 < e.item.size))) ∧ Below W.heap.size W w' := by
  obtain ⟨id, item, kind, qty, price, ofI, day⟩ := e
  unfold evV
  simp only
  have hB : ∀ o : Obj, Below W.heap.size W (W.alloc o) := fun o => (Below.refl _ _).alloc (Nat.le_refl _) o
  have HB : Hid _ := hB
  clear hB
  by_cases hd : 60 < item.size
  · have hz : (60 : Int) < (item.size : Int) := by omega
    have hd2 : decide (60 < item.size) = true := by simpa using hd
    go_enter Tryz.func59, Tryz.ntmps59
    go_wp2
    go_ret
    exact ⟨by rw [hd2]; rfl, HB.out _⟩
  · have hz : ¬ (60 : Int) < (item.size : Int) := by omega
    have hd2 : decide (60 < item.size) = false := by simpa using hd
    go_enter Tryz.func59, Tryz.ntmps59
    go_wp2
    go_ret
    exact ⟨rfl, HB.out _⟩
def heldB (l : List Ev) : Bool := decide (l.length ≤ 40) && !l.any fun e => decide (60 < e.item.size)
set_option maxHeartbeats 1000000 in
theorem held_any (l : List Ev) (ao : Option Addr) (cap : Nat) (w : World) (h : EvsC w ao l) (_hl : l.length ≤ maxLen) :
    Calls Tryz.prog 27 #[.slice ao l.length cap] w fun r w' => r = .returned (.bool (heldB l)) ∧ Below w.heap.size w w' := by
  by_cases h40 : l.length ≤ 40
  · have hz : (l.length : Int) ≤ 40 := by omega
    have hc := fun W (hb : Below w.heap.size w W) => cont_ev l ao cap W (h.below hb) (by omega) 59 #[] (fun e => decide (60 < e.item.size)) (enters_of Tryz.func59 (by kernel_rfl) rfl) (fun e W' _ => held1_any e W')
    have HB : Hid (heldB l = !l.any fun e => decide (60 < e.item.size)) := by show _ = _; unfold heldB; simp [h40]
    go_enter Tryz.func27, Tryz.ntmps27
    go_wp2_with fail
    refine (hc w (Below.refl _ _)).mono ?_
    rintro e w1 ⟨rfl, hb⟩
    generalize (l.any fun e => decide (60 < e.item.size)) = bb at HB ⊢
    go_wp2
    go_ret
    exact ⟨by rw [HB.out]; rfl, hb⟩
  · have hz : ¬ (l.length : Int) ≤ 40 := by omega
    have HB : Hid (heldB l = false) := by show _ = _; unfold heldB; simp [h40]
    go_enter Tryz.func27, Tryz.ntmps27
    go_wp2
    go_ret
    exact ⟨by rw [HB.out]; rfl, Below.refl _ _⟩
end Go.Proofs.YtmldaiofghpfdaaGreatDoor
namespace Go.Proofs.YtmldaiofghpfdaaGreatDoor
open Go.RowKit
/-- Those that are Right, numbered from 1 on. -/
noncomputable def numb (l : List Ev) : List Ev := (l.filter rtB).mapIdx fun i e => { e with id := (i : Int) + 1 }
theorem numb_len (l : List Ev) : (numb l).length ≤ l.length := by unfold numb; rw [List.length_mapIdx]; exact List.length_filter_le ..
theorem numb_snoc (a : List Ev) (x : Ev) : numb (a ++ [x]) = if rtB x = true then numb a ++ [{ x with id := ((numb a).length : Int) + 1 }] else numb a := by
  unfold numb
  rw [List.filter_append]
  by_cases h : rtB x = true
  · rw [if_pos h, show List.filter rtB [x] = [x] by simp [h], List.mapIdx_append]
    simp
  · rw [if_neg h, show List.filter rtB [x] = [] by simp [h], List.append_nil]
theorem own_lenN {w : World} {B : Nat} {T : TypeId} {m n : Nat} {v : Value} {xs : List Value} (h : w.ownsRow B T m v n xs) : ∃ ad cap, v = .slice ad n cap := by
  rcases h.2 with ⟨rfl, rfl⟩ | ⟨g, cap, cur, rfl, _⟩
  · exact ⟨none, 0, rfl⟩
  · exact ⟨_, _, rfl⟩
set_option maxHeartbeats 2000000 in
theorem numbered_any (l : List Ev) (ao : Option Addr) (cap : Nat) (w : World) (h : EvsC w ao l) (hw : ∀ e ∈ l, EvW e) (hl : l.length ≤ 1000) :
    Calls Tryz.prog 28 #[.slice ao l.length cap] w fun r w' => ∃ v' : Value, r = .returned v' ∧ w'.ownsRow w.heap.size 44 7 v' (numb l).length ((numb l).flatMap evC) ∧ Below w.heap.size w w' := by
  obtain ⟨i0, hi, hz0, hz1, hz2⟩ := info_parts Tryz.infoEv
  have HL : Hid (EvsC w ao l) := h
  have HW : Hid (∀ e ∈ l, EvW e) := hw
  clear h hw
  go_enter Tryz.func28, Tryz.ntmps28
  go_wp2
  go_loopw [3, 4] (fun u i wr => ∃ k : Nat, k ≤ l.length ∧ i = .int .i64 k ∧ Hid (wr.ownsRow w.heap.size 44 7 u (numb (l.take k)).length ((numb (l.take k)).flatMap evC)) ∧ Below w.heap.size w wr) (fun _ i _ => l.length - (intOf i).toNat)
  case atStart => exact ⟨0, Nat.zero_le _, rfl, World.ownsRow_nil _ _ _ _, Below.refl _ _⟩
  case round =>
    obtain ⟨k, hk, rfl, HO, hb⟩ := hrel
    by_cases hlt : k < l.length
    · obtain ⟨g, o, hao, hg, hc⟩ := HL.out.below hb (by omega)
      subst hao
      obtain ⟨x, hx⟩ : ∃ x, x = l[k] := ⟨_, rfl⟩
      have hcw : ∀ j, j < 7 → wr.cell? ⟨g, o + k * 7 + j, none⟩ = (evC x)[j]? := fun j hj => by rw [hc k hlt j hj, hx]
      have hxw : EvW x := by rw [hx]; exact HW.out _ (List.getElem_mem hlt)
      have HT : Hid (l.take (k + 1) = l.take k ++ [x]) := by show _ = _; rw [List.take_succ_eq_append_getElem hlt, hx]
      have hnl : (numb (l.take k)).length ≤ 1000 := Nat.le_trans (numb_len _) (by rw [List.length_take]; omega)
      obtain ⟨id, item, kind, qty, price, ofI, day⟩ := x
      have hcw2 : ∀ (W : World) (hb2 : Below wr.heap.size wr W) j, j < 7 → W.cell? ⟨g, o + k * 7 + j, none⟩ = (evC ⟨id, item, kind, qty, price, ofI, day⟩)[j]? := fun W hb2 j hj => (hb2.cell (p := ⟨g, o + k * 7 + j, none⟩) hg).trans (hcw j hj)
      have HCW : Hid _ := hcw2
      have q0 := hcw 0 (by omega)
      have q1 := hcw 1 (by omega)
      have q2 := hcw 2 (by omega)
      have q3 := hcw 3 (by omega)
      have q4 := hcw 4 (by omega)
      have q5 := hcw 5 (by omega)
      have q6 := hcw 6 (by omega)
      simp only [evC, List.getElem?_cons_zero, List.getElem?_cons_succ, Nat.add_zero] at q0 q1 q2 q3 q4 q5 q6
      have hr := right_any ⟨id, item, kind, qty, price, ofI, day⟩ wr hxw
      unfold evV at hr
      simp only at hr
      clear hcw hcw2 hx hc
      go_wp2_with fail
      refine hr.mono ?_
      rintro e w2 ⟨⟨b, rfl, hbb⟩, hb2⟩
      have hbt : rtB ⟨id, item, kind, qty, price, ofI, day⟩ = b := by
        have := rtB_iff ⟨id, item, kind, qty, price, ofI, day⟩
        cases b with
        | true => exact this.2 (hbb.1 rfl)
        | false => exact Bool.eq_false_iff.2 fun e => by have := hbb.2 (this.1 e); cases this
      have HNS := numb_snoc (l.take k) ⟨id, item, kind, qty, price, ofI, day⟩
      rw [hbt, ← HT.out] at HNS
      have hBw : Below w.heap.size w w2 := hb.trans (hb2.mono hb.size)
      have HO2 : Hid (w2.ownsRow w.heap.size 44 7 u3 (numb (l.take k)).length ((numb (l.take k)).flatMap evC)) := own_below HO.out hb2 (Nat.le_refl _)
      have c0 := HCW.out w2 hb2 0 (by omega)
      have c1 := HCW.out w2 hb2 1 (by omega)
      have c2 := HCW.out w2 hb2 2 (by omega)
      have c3 := HCW.out w2 hb2 3 (by omega)
      have c4 := HCW.out w2 hb2 4 (by omega)
      have c5 := HCW.out w2 hb2 5 (by omega)
      have c6 := HCW.out w2 hb2 6 (by omega)
      simp only [evC, List.getElem?_cons_zero, List.getElem?_cons_succ, Nat.add_zero] at c0 c1 c2 c3 c4 c5 c6
      clear hbb q0 q1 q2 q3 q4 q5 q6 hr hbt
      cases b with
      | true =>
        rw [if_pos rfl] at HNS
        have HN : Hid (numb (l.take (k + 1)) = _) := HNS
        obtain ⟨ad3, cp3, hu3⟩ := own_lenN HO2.out
        clear HNS
        obtain ⟨nb, hnb⟩ : ∃ nb, nb = numb (l.take k) := ⟨_, rfl⟩
        rw [← hnb] at HO2 HN hnl hu3
        clear hnb
        subst hu3
        go_wp2_with (first
          | (at_builtin; refine wpList_append_own _ rfl _ _ 59 rfl w.heap.size 44 i0 evZ 7 64 Tryz.underlying59 hi hz0 hz1 hz2 rfl (by decide) _ _ _ rfl ((HO2.out.alloc _).alloc _) ⟨w2.heap.size + 1, 0, none⟩ 1 1 (evC ⟨(nb.length : Int) + 1, item, kind, qty, price, ofI, day⟩) rfl rfl ?d1 ?d2 ?d3 ?d4 ?d5 ?_)
          | go_in)
        case d1 => exact cells_of_list (w := w2.alloc _) (b := w2.heap.size + 1) (by simp)
        case d2 => exact evC_one _
        case d3 => unfold maxLen; omega
        case d4 => omega
        case d5 => have := hBw.size; simp; omega
        · intro v' w3 hown3 hgr _
          go_wp2
          go_roundw
          case rel =>
            refine ⟨k + 1, by omega, by go_num, ?_, ?_⟩
            · show World.ownsRow _ _ _ _ _ _ _
              rw [HN.out]
              simp only [List.length_append, List.length_cons, List.length_nil, Nat.zero_add, List.flatMap_append, List.flatMap_cons, List.flatMap_nil, List.append_nil]
              exact hown3
            · exact ((hBw.alloc (by have := hBw.size; omega) _).alloc (by have := hBw.size; simp; omega) _).grown hgr (by have := hBw.size; simp; omega) (fun j hj => (HO2.out.lt j hj).1)
          case measure => simp [intOf]; omega
      | false =>
        rw [if_neg (by simp)] at HNS
        have HN : Hid (numb (l.take (k + 1)) = numb (l.take k)) := HNS
        clear HNS
        go_wp2
        go_roundw
        case rel =>
          refine ⟨k + 1, by omega, by go_num, ?_, hBw⟩
          show World.ownsRow _ _ _ _ _ _ _
          rw [HN.out]
          exact HO2.out
        case measure => simp [intOf]; omega
    · obtain rfl : k = l.length := by omega
      have ho := HO.out
      rw [List.take_length] at ho
      go_wp2
      go_ret
      exact ⟨_, rfl, ho, hb⟩
end Go.Proofs.YtmldaiofghpfdaaGreatDoor
namespace Go.Proofs.YtmldaiofghpfdaaGreatDoor
open Go.RowKit
open Go.Sort hiding Below
theorem wf_int {i : Int} (h0 : -9223372036854775808 ≤ i) (h1 : i ≤ 9223372036854775807) : (Lit.int .i64 i).wf = true := by
  simp [Lit.wf, IntKind.min, IntKind.max, IntKind.signed, IntKind.bits]; omega
theorem stl_pairs (l : List Ev) : ∃ ps : List EvN, ps.Perm l.zipIdx ∧ (ps.Pairwise fun x y => ltP y x = false) ∧ ps.map (·.1) = stl l := by
  have hi := insertionSort_holds (lt := ltP) swo_P l.zipIdx.toArray 0 l.length (Nat.zero_le _) (by simp)
  have hsz : l.zipIdx.toArray.size = l.length := by simp
  refine ⟨(insertionSort ltP l.zipIdx.toArray 0 l.length).toList, ?_, ?_, rfl⟩
  · have := permP (d := l.zipIdx.toArray) (by rw [hsz]; exact hi.1)
    simpa using this
  · exact sortP (by
      have e : (insertionSort ltP l.zipIdx.toArray 0 l.length).size = l.length := by rw [hi.1.1]; exact hsz
      rw [e]; exact hi.2)
/-- The last of all stands last. -/
theorem stl_last (l : List Ev) (e : Ev) (h : ∀ y ∈ l, y.day < e.day) : stl (l ++ [e]) = stl l ++ [e] := by
  obtain ⟨ps, h1, h2, h3⟩ := stl_pairs l
  have e1 := stl_of (l := l ++ [e]) (ps := ps ++ [(e, l.length)]) (by
    rw [List.zipIdx_append]
    simpa using h1.append_right [(e, l.length)]) (by
    rw [List.pairwise_append]
    refine ⟨h2, List.pairwise_singleton .., fun x hx y hy => ?_⟩
    rw [List.mem_singleton] at hy
    subst hy
    have hx2 := h1.mem_iff.1 hx
    have hx3 : x.1 ∈ l := by
      have := List.mem_zipIdx_iff_getElem?.1 hx2
      exact List.mem_of_getElem? this
    have := h x.1 hx3
    rw [← Bool.not_eq_true, ltP_iff]
    simp only
    omega)
  rw [← e1, List.map_append, h3]
  rfl
theorem filter_rt {l : List Ev} (h : ∀ e ∈ l, Rt e) : l.filter rtB = l := by
  rw [List.filter_eq_self]
  exact fun e he => (rtB_iff e).2 (h e he)
theorem ordd_last {l : List Ev} {e : Ev} (h : ∀ y ∈ l, Rt y) (he : Rt e) (hd : ∀ y ∈ l, y.day < e.day) : ordd (l ++ [e]) = ordd l ++ [e] := by
  unfold ordd
  rw [filter_rt h, filter_rt (fun y hy => by
    rcases List.mem_append.1 hy with a | a
    · exact h y a
    · rw [List.mem_singleton] at a; rw [a]; exact he), stl_last l e hd]
theorem numb_mem {l : List Ev} {y : Ev} (h : y ∈ numb l) : ∃ (i : Nat) (x : Ev), x ∈ l ∧ Rt x ∧ y = { x with id := (i : Int) + 1 } ∧ i < (numb l).length := by
  unfold numb at h ⊢
  rw [List.mem_mapIdx] at h
  obtain ⟨i, hi, he⟩ := h
  have hm := List.getElem_mem hi
  rw [List.mem_filter] at hm
  exact ⟨i, _, hm.1, (rtB_iff _).1 hm.2, he.symm, by rw [List.length_mapIdx]; exact hi⟩
theorem numb_rt {l : List Ev} : ∀ y ∈ numb l, Rt y := fun y hy => by
  obtain ⟨i, x, _, hr, rfl, _⟩ := numb_mem hy
  exact hr
theorem numb_w {l : List Ev} (hw : ∀ e ∈ l, EvW e) (hl : l.length ≤ 1000) : ∀ y ∈ numb l, EvW y := fun y hy => by
  obtain ⟨i, x, hx, _, rfl, hi⟩ := numb_mem hy
  have := numb_len l
  have h := hw x hx
  exact ⟨wf_int (by simp only; omega) (by simp only; omega), h.item, h.kind, h.qty, h.price, h.ofI, h.day⟩
theorem numb_ordd (l : List Ev) : ordd (numb l) = stl (numb l) := by unfold ordd; rw [filter_rt numb_rt]
theorem ordd_numb_len (l : List Ev) : (ordd (numb l)).length = (numb l).length := by rw [numb_ordd, stl_len]
/-- Who takes all takes all. -/
theorem do_out {s : Stk} {i q d : Int} {x : ByteArray} (ok : ∀ y ∈ s.ys, LayOK y) (hq : q = sumQ s.ys) : doE s ⟨i, x, 3, q, 0, 0, d⟩ = (⟨[], s.price⟩, ⟨i, sumV s.ys, 0, 0, false⟩) := by
  have hn := sum_nonneg ok
  have t := tk_took s.ys q ok (by omega)
  have g := t.gone (by omega)
  have f := t.few (by omega)
  have v := t.val
  rw [g] at v
  simp only [sumV] at v
  unfold doE
  rw [if_neg (by simp), if_neg (by simp), if_pos rfl]
  simp only [g, f.2]
  rw [show (tk s.ys q).2.1 = sumV s.ys by omega]
theorem do_none {s : Stk} {i d : Int} {x : ByteArray} (ok : ∀ y ∈ s.ys, LayOK y) : doE s ⟨i, x, 4, 0, 0, 0, d⟩ = (⟨[], s.price⟩, ⟨i, sumV s.ys, 0, 0, false⟩) := by
  have hn := sum_nonneg ok
  have t := tk_took s.ys (sumQ s.ys) ok hn.1
  have g := t.gone (Int.le_refl _)
  have v := t.val
  rw [g] at v
  simp only [sumV] at v
  unfold doE
  rw [if_neg (by simp), if_neg (by simp), if_neg (by simp), if_neg (by simp only; omega)]
  simp only [Int.sub_zero, g]
  rw [show (tk s.ys (sumQ s.ys)).2.1 = sumV s.ys by omega]
theorem do_same {s : Stk} {i q d : Int} {x : ByteArray} (hq : q = sumQ s.ys) : doE s ⟨i, x, 4, q, 0, 0, d⟩ = (s, ⟨i, 0, 0, 0, false⟩) := by
  unfold doE
  rw [if_neg (by simp), if_neg (by simp), if_neg (by simp), if_neg (by simp only; omega)]
  simp only [hq, Int.sub_self]
  rw [tk_done _ _ (Or.inl (Int.le_refl _))]
end Go.Proofs.YtmldaiofghpfdaaGreatDoor
namespace Go.Proofs.YtmldaiofghpfdaaGreatDoor
open Go.RowKit Go.Shelf
theorem stl_sorted (l : List Ev) : (stl l).Pairwise fun x y => ltOf cmpE y x = false := by
  obtain ⟨ps, _, hs, he⟩ := stl_pairs l
  rw [← he, List.pairwise_map]
  refine hs.imp fun {a b} h => ?_
  unfold ltP at h
  rw [Bool.or_eq_false_iff] at h
  exact h.1
theorem stl_nodup {l : List Ev} (hn : (l.map (·.id)).Nodup) : ((stl l).map (·.id)).Nodup := ((stl_perm l).map _).nodup_iff.2 hn
theorem stl_filter {l : List Ev} (hn : (l.map (·.id)).Nodup) (p : Ev → Bool) : stl (l.filter p) = (stl l).filter p := by
  refine sorted_one ((stl_perm _).trans ((stl_perm l).filter p).symm) (stl_sorted _) ((stl_sorted l).sublist List.filter_sublist) ?_
  exact stl_nodup (hn.sublist (List.filter_sublist.map _))
theorem stl_same {l l' : List Ev} (hp : l'.Perm l) (hn : (l.map (·.id)).Nodup) : stl l' = stl l := by
  refine sorted_one ((stl_perm _).trans (hp.trans (stl_perm l).symm)) (stl_sorted _) (stl_sorted _) ?_
  exact stl_nodup ((hp.map _).nodup_iff.2 hn)
theorem ordd_stl {l : List Ev} (h : ∀ e ∈ l, Rt e) : ordd l = stl l := by unfold ordd; rw [filter_rt h]
theorem numb_nodup (l : List Ev) : ((numb l).map (·.id)).Nodup := by
  unfold numb
  rw [List.nodup_iff_pairwise_ne, List.pairwise_iff_getElem]
  intro i j hi hj hij
  simp only [List.getElem_map, List.getElem_mapIdx]
  omega
end Go.Proofs.YtmldaiofghpfdaaGreatDoor
