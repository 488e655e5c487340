/- The walks of slices.Clone at closes, and of (*period.Periods).Closed. The walk of slices.Equal at closes. slices.Equal at events that are the same. The walks of (*house.House).Journal and tallymankeep.alike. -/
import Derived.Test.YtdkhohlhdiekmaaGreatDoorBnU
import Derived.Laws.StructEq
import Derived.Test.YtdkhohlhdiekmaaGreatDoorBnQ
import Derived.Test.YtdkhohlhdiekmaaGreatDoorBnHm
namespace Go.Proofs.YtdkhohlhdiekmaaGreatDoor
open Go.RowKit Go.Maps
theorem nil_cl (w : World) : (binOp BinOp.eql 27 (.slice none 0 0) (.slice none 0 0)).run Tryz.prog w = .ok (.bool true) w := by kernel_rfl
theorem some_cl (a : Addr) (n c : Nat) (w : World) : (binOp BinOp.eql 27 (.slice (some a) n c) (.slice none 0 0)).run Tryz.prog w = .ok (.bool false) w := by kernel_rfl
set_option maxHeartbeats 1000000 in
theorem clone_cl {B : Nat} (l : List Cl) (v : Value) (w : World) (h : w.ownsRow B 98 7 v l.length (l.flatMap clC)) (hl : l.length ≤ 1000) :
    Calls Tryz.prog 80 #[v] w fun r w' => ∃ v' : Value, r = .returned v' ∧ w'.ownsRow w.heap.size 98 7 v' l.length (l.flatMap clC) ∧ Below w.heap.size w w' := by
  obtain ⟨i0, hi, hz0, hz1, hz2⟩ := info_parts cl_info
  rcases own_form h with ⟨hv, hn, _⟩ | ⟨g, cap, hv, _, hgl, _⟩
  · subst hv
    have hz : l = [] := List.length_eq_zero_iff.1 hn
    subst hz
    go_enter Tryz.func80, Tryz.ntmps80
    have hne := nil_cl
    go_wp2
    go_ret
    exact ⟨_, rfl, World.ownsRow_nil _ _ _ _, Below.refl _ _⟩
  · subst hv
    have hcs := h.cells (g := g) rfl
    have HCS : Hid (∀ j u, (l.flatMap clC)[j]? = some u → w.cell? ((⟨g, 0, none⟩ : Addr).add j) = some u) := hcs
    have hfl := flat_len clC 7 clC_len l
    clear h hcs
    have hE : (w.alloc (.cells #[] 98)).ownsRow w.heap.size 98 7 (.slice (some ⟨w.heap.size, 0, none⟩) 0 0) 0 [] :=
      ⟨rfl, Or.inr ⟨w.heap.size, 0, #[], rfl, Nat.le_refl _, heap_alloc_new w _, Nat.le_refl _, Nat.zero_le _, rfl, rfl⟩⟩
    have HE : Hid _ := hE
    clear hE
    go_enter Tryz.func80, Tryz.ntmps80
    have hne := some_cl
    go_wp2_with (first
      | (at_builtin; refine wpList_append_own _ rfl _ _ 27 rfl w.heap.size 98 i0 clZ 7 56 Tryz.underlying27 hi hz0 hz1 hz2 rfl (by decide) _ _ _ rfl HE.out ⟨g, 0, none⟩ l.length cap (l.flatMap clC) rfl (by rw [hfl]) ?d1 ?d2 ?d3 ?d4 (by simp) ?_)
      | go_in)
    case d1 =>
      intro j u hj
      have hadd : (⟨g, 0, none⟩ : Addr).add j = ⟨g, j, none⟩ := by unfold Addr.add; split <;> simp_all
      have := HCS.out j u hj
      rw [hadd] at this
      exact this
    case d2 =>
      intro u e _ he
      exact clC_one e u he
    case d3 => unfold maxLen; omega
    case d4 => omega
    intro v' w3 hown3 hgr _
    have HB3 : Hid (Below w.heap.size w w3) := ((Below.refl w.heap.size w).alloc (Nat.le_refl _) _).grown hgr (by simp) (fun j hj => by simp [Value.ownBlock] at hj; omega)
    clear hgr
    go_wp2
    go_ret
    exact ⟨_, rfl, hown3, HB3.out⟩
set_option maxHeartbeats 1000000 in
theorem closed_any {w : World} {B pp : Nat} {cv : Value} {cs : List Cl} (hp : PerAt w B pp cv cs) (hl : cs.length ≤ 1000) :
    Calls Tryz.prog 41 #[.pointer (some ⟨pp, 3, none⟩)] w fun r w' => ∃ v' : Value, r = .returned v' ∧ w'.ownsRow w.heap.size 98 7 v' cs.length (cs.flatMap clC) ∧ Below w.heap.size w w' := by
  have hcl := clone_cl cs cv w hp.own hl
  have hc := hp.c0
  obtain ⟨ad, cap, hcv⟩ := own_lenN hp.own
  subst hcv
  clear hp
  go_enter Tryz.func41, Tryz.ntmps41
  go_wp2_with fail
  refine hcl.mono ?_
  rintro r w1 ⟨v, rfl, hown, hb⟩
  obtain ⟨ad1, cap1, hv⟩ := own_lenN hown
  subst hv
  go_wp2
  go_ret
  exact ⟨_, rfl, hown, hb⟩
end Go.Proofs.YtdkhohlhdiekmaaGreatDoor
namespace Go.Proofs.YtdkhohlhdiekmaaGreatDoor
open Go.RowKit Go.Maps
theorem neq_cl (a b c d e f g : Int) (w : World) : (binOp BinOp.neq 98 (.agg #[.int .i64 a, .int .i64 b, .int .i64 c, .int .i64 d, .int .i64 e, .int .i64 f, .int .i64 g]) (.agg #[.int .i64 a, .int .i64 b, .int .i64 c, .int .i64 d, .int .i64 e, .int .i64 f, .int .i64 g])).run Tryz.prog w = .ok (.bool false) w := by
  have hS : Tryz.prog.underlying 98 = some (.struct (Tryz.prog.fieldsOf 98)) := by kernel_rfl
  have hp : Tryz.prog.stoodInHeld 98 = false := by kernel_rfl
  have u3 := Tryz.underlying3
  have a3 := Tryz.isAgg3
  have z3 := Tryz.sizeOf3
  rw [run_neq_struct, show (10000 : Nat) = 9999 + 1 from rfl, run_equalIn_agg w 9999 98 _ _ hS hp]
  simp only [Program.fieldsOf, Tryz.underlying98, Op.eqFields]
  clear hS hp
  go_simp
/-- A slice whose first places hold these closes. -/
def ClsAt (w : World) (ad : Option Addr) (l : List Cl) : Prop := 0 < l.length → ∃ g, ad = some ⟨g, 0, none⟩ ∧ ∀ k (hk : k < l.length) j, j < 7 → w.cell? ⟨g, k * 7 + j, none⟩ = (clC l[k])[j]?
set_option maxHeartbeats 1000000 in
theorem eqCl_any (l : List Cl) (a1 a2 : Option Addr) (c1 c2 : Nat) (w : World) (h1 : ClsAt w a1 l) (h2 : ClsAt w a2 l) (hl : l.length ≤ 1000000) :
    Calls Tryz.prog 40 #[.slice a1 l.length c1, .slice a2 l.length c2] w fun r w' => r = .returned (.bool true) ∧ ∃ m, w' = w.drewN m := by
  have H1 : Hid (ClsAt w a1 l) := h1
  have H2 : Hid (ClsAt w a2 l) := h2
  clear h1 h2
  go_enter Tryz.func40, Tryz.ntmps40
  go_wp2
  go_loopw [13] (fun i wr => ∃ k : Nat, k ≤ l.length ∧ i = .int .i64 k ∧ ∃ m, wr = w.drewN m) (fun i _ => l.length - (intOf i).toNat)
  case atStart => exact ⟨0, Nat.zero_le _, rfl, 0, rfl⟩
  case round =>
    obtain ⟨k, hk, rfl, m0, hwr⟩ := hrel
    by_cases hlt : k < l.length
    · have hA1 : ClsAt wr a1 l := by rw [hwr]; exact H1.out
      have hA2 : ClsAt wr a2 l := by rw [hwr]; exact H2.out
      obtain ⟨g1, rfl, p⟩ := hA1 (by omega)
      obtain ⟨g2, rfl, q⟩ := hA2 (by omega)
      have p0 := p k hlt 0 (by omega)
      have p1 := p k hlt 1 (by omega)
      have p2 := p k hlt 2 (by omega)
      have p3 := p k hlt 3 (by omega)
      have p4 := p k hlt 4 (by omega)
      have p5 := p k hlt 5 (by omega)
      have p6 := p k hlt 6 (by omega)
      have q0 := q k hlt 0 (by omega)
      have q1 := q k hlt 1 (by omega)
      have q2 := q k hlt 2 (by omega)
      have q3 := q k hlt 3 (by omega)
      have q4 := q k hlt 4 (by omega)
      have q5 := q k hlt 5 (by omega)
      have q6 := q k hlt 6 (by omega)
      clear p q
      generalize l[k] = y at p0 p1 p2 p3 p4 p5 p6 q0 q1 q2 q3 q4 q5 q6
      obtain ⟨ym, yt, y1, y2, y3, y4, y5⟩ := y
      simp only [clC, figC, List.getElem?_cons_zero, List.getElem?_cons_succ, Nat.add_zero] at p0 p1 p2 p3 p4 p5 p6 q0 q1 q2 q3 q4 q5 q6
      have hne := neq_cl ym yt y1 y2 y3 y4 y5
      have mixed := csP.mixed
      have HWR : Hid (wr = w.drewN m0) := hwr
      clear hwr
      go_wp2_with fail
      go_quiet (fail)
      go_wp2
      go_roundw
      case rel => exact ⟨k + 1, by omega, by go_num, m0 + nq, by rw [HWR.out, World.drewN_drewN]⟩
      case measure => simp [intOf]; omega
    · obtain rfl : k = l.length := by omega
      have HWR : Hid (wr = w.drewN m0) := hwr
      clear hwr
      go_wp2
      go_ret
      exact ⟨rfl, m0, HWR.out⟩
end Go.Proofs.YtdkhohlhdiekmaaGreatDoor
namespace Go.Proofs.YtdkhohlhdiekmaaGreatDoor
open Go.RowKit
def eqE (x y : Ev) : Bool := (x.id == y.id) && ((x.item.toList == y.item.toList) && ((x.kind == y.kind) && ((x.qty == y.qty) && ((x.price == y.price) && ((x.ofI == y.ofI) && (x.day == y.day))))))
theorem eqE_refl (x : Ev) : eqE x x = true := by unfold eqE; simp
set_option maxHeartbeats 1000000 in
theorem neqE : NeqAt Tryz.prog 78 (fun x => .agg (evC x).toArray) eqE := by
  refine ⟨fun x y w => ?_, GuardAt.agg _ (by kernel_rfl)⟩
  have hS : Tryz.prog.underlying 78 = some (.struct (Tryz.prog.fieldsOf 78)) := by kernel_rfl
  have hp : Tryz.prog.stoodInHeld 78 = false := by kernel_rfl
  have u3 := Tryz.underlying3
  have a3 := Tryz.isAgg3
  have z3 := Tryz.sizeOf3
  have u9 := Tryz.underlying9
  have a9 := Tryz.isAgg9
  have z9 := Tryz.sizeOf9
  unfold eqE
  simp only [evC]
  rw [run_neq_struct, show (10000 : Nat) = 9999 + 1 from rfl, run_equalIn_agg w 9999 78 _ _ hS hp]
  simp only [Program.fieldsOf, Tryz.underlying78]
  go_simp
  by_cases h1 : x.id = y.id
  · by_cases h2 : x.item.toList = y.item.toList
    · by_cases h3 : x.kind = y.kind
      · by_cases h4 : x.qty = y.qty
        · by_cases h5 : x.price = y.price
          · by_cases h6 : x.ofI = y.ofI
            · by_cases h7 : x.day = y.day <;> simp [h1, h2, h3, h4, h5, h6, h7]
            · simp [h1, h2, h3, h4, h5, h6]
          · simp [h1, h2, h3, h4, h5]
        · simp [h1, h2, h3, h4]
      · simp [h1, h2, h3]
    · simp [h1, h2]
  · simp [h1]
theorem allEq_same : ∀ l : List Ev, Lib.allEq eqE l l = true
  | [] => rfl
  | x :: l => by simp [Lib.allEq, eqE_refl, allEq_same l]
set_option maxHeartbeats 1000000 in
theorem eq_none (a b : Option Addr) (c d : Nat) (w : World) :
    Calls Tryz.prog 43 #[.slice a 0 c, .slice b 0 d] w fun e w' => e = .returned (.bool true) ∧ w' = w := by
  go_enter Tryz.func43, Tryz.ntmps43
  go_wp2
  refine wp_loop_rounds 1 ?_
  rw [rounds_succ]
  go_wp2
  go_ret
  exact ⟨rfl, rfl⟩
/-- Two slices of the same events are equal. -/
theorem eq_same {B1 B2 : Nat} {v1 v2 : Value} {l : List Ev} {w : World} (h1 : w.ownsRow B1 78 7 v1 l.length (l.flatMap evC)) (h2 : w.ownsRow B2 78 7 v2 l.length (l.flatMap evC)) :
    Calls Tryz.prog 43 #[v1, v2] w fun e w' => e = .returned (.bool true) ∧ Below w.heap.size w w' := by
  by_cases hl : l.length = 0
  · obtain ⟨a1, c1, e1⟩ := own_len h1
    obtain ⟨a2, c2, e2⟩ := own_len h2
    rw [e1, e2, hl]
    exact (eq_none a1 a2 c1 c2 w).mono fun _ _ ⟨he, hw⟩ => ⟨he, by rw [hw]; exact Below.refl _ _⟩
  · rcases own_form h1 with ⟨_, hn, _⟩ | ⟨g1, cap1, e1, _, _, hc1, hm1⟩
    · exact absurd hn hl
    · rcases own_form h2 with ⟨_, hn, _⟩ | ⟨g2, cap2, e2, _, _, _, _⟩
      · exact absurd hn hl
      · subst e1 e2
        have hmx : l.length ≤ 9223372036854775807 := by unfold maxLen at hm1; omega
        have cell : ∀ (g cap B : Nat), w.ownsRow B 78 7 (.slice (some ⟨g, 0, none⟩) l.length cap) l.length (l.flatMap evC) → ∀ j, j < l.length → ∀ i v, (evC l[j]!)[i]? = some v → w.cell? ⟨g, 0 + j * 7 + i, none⟩ = some v := fun g cap B h j hj i v hi => by
          have hi7 : i < 7 := by
            have := (List.getElem?_eq_some_iff.1 hi).1
            rw [evC_len] at this; exact this
          rw [Nat.zero_add, (own_cell evC_len h j i hj hi7).1, ← hi, getElem!_pos l j hj]
        have hcon := AnyQ.slices_Equal Tryz.eqF 7 Tryz.isAgg78 Tryz.sizeOf78 evC evC_len eqE neqE g1 0 l.length cap1 g2 0 l.length cap2 l l w (Nat.le_refl _) (Nat.le_refl _) hmx hmx (cell g1 cap1 B1 h1) (cell g2 cap2 B2 h2)
        rw [List.take_length, allEq_same] at hcon
        have hcon' : Calls Tryz.prog 43 #[.slice (some ⟨g1, 0, none⟩) l.length cap1, .slice (some ⟨g2, 0, none⟩) l.length cap2] w _ := hcon
        refine hcon'.mono ?_
        rintro e w' ⟨he, q, rfl⟩
        exact ⟨he, ⟨rfl, rfl, rfl, Nat.le_refl _, fun _ _ => rfl⟩⟩
end Go.Proofs.YtdkhohlhdiekmaaGreatDoor
namespace Go.Proofs.YtdkhohlhdiekmaaGreatDoor
open Go.RowKit
theorem neq_figH (a b c d e : Int) (w : World) : (binOp BinOp.neq 38 (.agg #[.int .i64 a, .int .i64 b, .int .i64 c, .int .i64 d, .int .i64 e]) (.agg #[.int .i64 a, .int .i64 b, .int .i64 c, .int .i64 d, .int .i64 e])).run Tryz.prog w = .ok (.bool false) w := by
  have hS : Tryz.prog.underlying 38 = some (.struct (Tryz.prog.fieldsOf 38)) := by kernel_rfl
  have hp : Tryz.prog.stoodInHeld 38 = false := by kernel_rfl
  have u3 := Tryz.underlying3
  have a3 := Tryz.isAgg3
  have z3 := Tryz.sizeOf3
  rw [run_neq_struct, show (10000 : Nat) = 9999 + 1 from rfl, run_equalIn_agg w 9999 38 _ _ hS hp]
  simp only [Program.fieldsOf, Tryz.underlying38, Op.eqFields]
  clear hS hp
  go_simp
theorem journal_any {w : World} {B ph : Nat} {sv cv : Value} {h : Hs} (a : HsAt w B ph sv cv h) :
    Calls Tryz.prog 10 #[.pointer (some ⟨ph, 0, none⟩)] w fun e w' => e = .returned (.string (ba (framesL 0 h.ls))) ∧ w' = w := by
  have cj := a.cj
  clear a
  go_enter Tryz.func10, Tryz.ntmps10
  go_wp2
  go_ret
  exact ⟨rfl, rfl⟩
theorem cls_of {w : World} {B : Nat} {v : Value} {l : List Cl} (h : w.ownsRow B 98 7 v l.length (l.flatMap clC)) : ∃ ad cap, v = .slice ad l.length cap ∧ ClsAt w ad l := by
  rcases own_form h with ⟨hv, hn, _⟩ | ⟨g, cap, hv, _⟩
  · exact ⟨none, 0, by rw [hv, hn], fun hp => by omega⟩
  · subst hv
    exact ⟨_, cap, rfl, fun _ => ⟨g, rfl, fun k hk j hj => (own_cell clC_len h k j hk hj).1⟩⟩
theorem ClsAt.below {w w' : World} {ad : Option Addr} {l : List Cl} (h : ClsAt w ad l) (hb : Below w.heap.size w w') : ClsAt w' ad l := fun hp => by
  obtain ⟨g, e, hc⟩ := h hp
  have hg : g < w.heap.size := by
    have h0 := hc 0 hp 0 (by omega)
    simp only [clC, List.getElem?_cons_zero] at h0
    exact World.block_lt_of_cell? _ _ h0
  exact ⟨g, e, fun k hk j hj => (hb.cell (p := ⟨g, k * 7 + j, none⟩) hg).trans (hc k hk j hj)⟩
set_option maxRecDepth 20000 in
set_option maxHeartbeats 8000000 in
theorem alike_any {w : World} {B1 B2 p1 p2 : Nat} {s1 c1 s2 c2 : Value} {h : Hs} (a1 : HsAt w B1 p1 s1 c1 h) (a2 : HsAt w B2 p2 s2 c2 h) (ho : HsOk h) (hn : h.ls.length ≤ 100000) (ht : LenTab w) :
    Calls Tryz.prog 19 #[.pointer (some ⟨p1, 0, none⟩), .pointer (some ⟨p2, 0, none⟩)] w fun e w' => e = .returned (.bool true) ∧ Below w.heap.size w w' := by
  have hbn := ho.n
  have hcs := ho.cs
  have HA1 := hidE a1
  have HA2 := hidE a2
  have HI : Hid (Inv h.bk) := ho.inv
  have HT := hidE ht
  have hn0 := ho.inv.n0
  clear a1 a2 ho ht
  go_enter Tryz.func19, Tryz.ntmps19
  go_wp2_with fail
  refine wp_region_turn [(.pure, 0), (.pure, 2), (.make, 1), (.make, 3), (.pure, 4), (.pure, 5), (.pure, 6), (.pure, 7), (.pure, 8), (.pure, 10), (.pure, 11), (.pure, 12), (.make, 9), (.make, 13), (.pure, 14), (.pure, 15), (.pure, 16), (.pure, 17), (.pure, 18), (.pure, 19), (.pure, 21), (.pure, 22), (.pure, 23), (.make, 20), (.make, 24), (.make, 25), (.pure, 26), (.pure, 27), (.pure, 28), (.pure, 29), (.pure, 30), (.pure, 31), (.pure, 32), (.pure, 33), (.pure, 34), (.pure, 36), (.pure, 37), (.pure, 38), (.pure, 39), (.pure, 40), (.pure, 41), (.make, 35), (.make, 42), (.pure, 43), (.pure, 44)] (by kernel_rfl) (by kernel_rfl) ?_
  obtain ⟨W0, hW0⟩ : ∃ W, W = w.drew := ⟨_, rfl⟩
  rw [← hW0]
  have hb0 : Below w.heap.size w W0 := by rw [hW0]; exact below_drew _
  clear hW0
  have hU := up_ne
  have hA := anyW_ne
  have hj1 := journal_any (HA1.out.below hb0)
  have hj2 := journal_any (HA2.out.below hb0)
  repeat (first | refine turn_p rfl ?_ | refine turn_q rfl ?_); go_big_quiet_step (fail); refine wpQuiet_nil ?_
  refine turn_n rfl ?_
  go_wp2_with fail
  refine hj1.mono ?_
  rintro e w1 ⟨rfl, hw1⟩
  subst w1
  clear hj1
  go_wp2_with fail
  refine ⟨rfl, Below.refl _ _, ?_⟩
  refine turn_n rfl ?_
  go_wp2_with fail
  refine hj2.mono ?_
  rintro e w1 ⟨rfl, hw1⟩
  subst w1
  clear hj2
  go_wp2_with fail
  refine ⟨rfl, Below.refl _ _, ?_⟩
  have ht1 := turn_any (HA1.out.below hb0).bk
  have ht2 := turn_any (HA2.out.below hb0).bk
  repeat (first | refine turn_p rfl ?_ | refine turn_q rfl ?_); go_big_quiet_step (fail); refine wpQuiet_nil ?_
  refine turn_n rfl ?_
  go_wp2_with fail
  refine ht1.mono ?_
  rintro e w1 ⟨rfl, hw1⟩
  subst w1
  clear ht1
  go_wp2_with fail
  refine ⟨rfl, Below.refl _ _, ?_⟩
  refine turn_n rfl ?_
  go_wp2_with fail
  refine ht2.mono ?_
  rintro e w1 ⟨rfl, hw1⟩
  subst w1
  clear ht2
  go_wp2_with fail
  refine ⟨rfl, Below.refl _ _, ?_⟩
  have hc1 := closed_any (HA1.out.below hb0).pr (by omega)
  repeat (first | refine turn_p rfl ?_ | refine turn_q rfl ?_); go_big_quiet_step (fail); refine wpQuiet_nil ?_
  refine turn_n rfl ?_
  go_wp2_with fail
  refine hc1.mono ?_
  rintro e w2 ⟨v1, rfl, hown1, hb2⟩
  obtain ⟨ad1, cp1, rfl, hcl1⟩ := cls_of hown1
  have hB2 : Below w.heap.size w w2 := hb0.trans (hb2.mono hb0.size)
  have hc2 := closed_any (HA2.out.below hB2).pr (by omega)
  have HB2 := hidE hb2
  clear hc1 hown1 hb2
  go_wp2_with fail
  refine ⟨rfl, HB2.out, ?_⟩
  refine turn_n rfl ?_
  go_wp2_with fail
  refine hc2.mono ?_
  rintro e w3 ⟨v2, rfl, hown2, hb3⟩
  obtain ⟨ad2, cp2, rfl, hcl2⟩ := cls_of hown2
  have hB3 : Below w.heap.size w w3 := hB2.trans (hb3.mono hB2.size)
  have heq := eqCl_any h.cs ad1 ad2 cp1 cp2 w3 (hcl1.below hb3) hcl2 (by omega)
  have HB3 := hidE hb3
  clear hc2 hown2 hb3 hcl1 hcl2
  go_wp2_with fail
  refine ⟨rfl, HB3.out, ?_⟩
  refine turn_n rfl ?_
  go_wp2_with fail
  refine heq.mono ?_
  rintro e w4 ⟨rfl, m4, hw4⟩
  have hb4 : Below w3.heap.size w3 w4 := by rw [hw4]; exact below_drewN (Below.refl _ _) _
  have hB4 : Below w.heap.size w w4 := hB3.trans (hb4.mono hB3.size)
  have HB4 := hidE hb4
  have ho1 := open_any (HA1.out.below hB4).pr (HA1.out.below hB4).bk HI.out (HT.out.below hB4) (by omega)
  have HO2 := fun (W : World) (hb : Below w.heap.size w W) => hidE (open_any (HA2.out.below hb).pr (HA2.out.below hb).bk HI.out (HT.out.below hb) (by omega))
  obtain ⟨F, hF⟩ : ∃ F, F = unp (untl (srt (asOf h.bk h.bk.n)) 3300) h.cs := ⟨_, rfl⟩
  rw [← hF] at ho1 HO2
  obtain ⟨F1, F2, F3, F4, F5⟩ := F
  unfold figV at ho1 HO2
  simp only at ho1 HO2
  clear heq hw4 hb4 hF
  go_wp2_with fail
  refine ⟨rfl, HB4.out, ?_⟩
  repeat (first | refine turn_p rfl ?_ | refine turn_q rfl ?_); go_big_quiet_step (fail); refine wpQuiet_nil ?_
  refine turn_n rfl ?_
  go_wp2_with fail
  refine ho1.mono ?_
  rintro e w5 ⟨rfl, hb5⟩
  have hB5 : Below w.heap.size w w5 := hB4.trans (hb5.mono hB4.size)
  have ho2 := (HO2 w5 hB5).out
  have HB5 := hidE hb5
  clear ho1 hb5 HO2
  go_wp2_with fail
  refine ⟨rfl, HB5.out, ?_⟩
  refine turn_n rfl ?_
  go_wp2_with fail
  refine ho2.mono ?_
  rintro e w6 ⟨rfl, hb6⟩
  have hB6 : Below w.heap.size w w6 := hB5.trans (hb6.mono hB5.size)
  have HB6 := hidE hb6
  clear ho2 hb6
  go_wp2_with fail
  refine ⟨rfl, HB6.out, ?_⟩
  have hne := neq_figH
  repeat (first | refine turn_p rfl ?_ | refine turn_q rfl ?_); go_big_quiet_step (fail); refine wpQuiet_nil ?_
  refine turn_nil ?_
  clear hne HB2 HB3 HB4 HB5 HB6 hB2 hB3 hB4 hB5 hb0
  go_wp2_with fail
  go_loopw [5] (fun t wr => ∃ k : Nat, (k : Int) ≤ h.bk.n + 1 ∧ t = .int .i64 k ∧ Hid (Below w.heap.size w wr)) (fun t _ => (h.bk.n + 1).toNat - (intOf t).toNat)
  case atStart => exact ⟨0, by omega, rfl, hB6⟩
  case round =>
    obtain ⟨k, hk, rfl, HB⟩ := hrel
    have htn := turn_any (HA1.out.below HB.out).bk
    go_wp2_with fail
    refine htn.mono ?_
    rintro e wt ⟨rfl, hwt⟩
    subst wt
    clear htn
    by_cases hlt : (k : Int) ≤ h.bk.n
    · have HAS1 := fun (W : World) (hb : Below w.heap.size w W) => hidE (as_any (HA1.out.below hb).bk (by have := HI.out.full; omega) (k : Int))
      have HAS := fun (W : World) (hb : Below w.heap.size w W) => hidE (as_any (HA2.out.below hb).bk (by have := HI.out.full; omega) (k : Int))
      obtain ⟨es, hes⟩ : ∃ es, es = srt (asOf h.bk (tOf h.bk (k : Int))) := ⟨_, rfl⟩
      rw [← hes] at HAS1 HAS
      clear hes
      go_wp2_with fail
      refine wp_region_turn [(.pure, 0), (.pure, 1), (.pure, 2), (.pure, 3), (.pure, 5), (.pure, 6), (.pure, 7), (.pure, 8), (.make, 4), (.make, 9), (.make, 10), (.pure, 11)] (by kernel_rfl) (by kernel_rfl) ?_
      obtain ⟨Wd, hWd⟩ : ∃ W, W = wr.drew := ⟨_, rfl⟩
      rw [← hWd]
      have hBd : Below w.heap.size w Wd := by rw [hWd]; exact HB.out.trans ((below_drew _).mono HB.out.size)
      have has1 := (HAS1 Wd hBd).out
      clear hWd HAS1
      repeat (first | refine turn_p rfl ?_ | refine turn_q rfl ?_); go_big_quiet_step (fail); refine wpQuiet_nil ?_
      refine turn_n rfl ?_
      go_wp2_with fail
      refine has1.mono ?_
      rintro e w7 ⟨v1, rfl, hown1, hb7⟩
      have hB7 : Below w.heap.size w w7 := hBd.trans (hb7.mono hBd.size)
      have has2 := (HAS w7 hB7).out
      have HB7 := hidE hb7
      obtain ⟨ad3, cp3, hv1⟩ := own_len hown1
      subst hv1
      clear has1 HAS
      go_wp2_with fail
      refine ⟨rfl, HB7.out, ?_⟩
      refine turn_n rfl ?_
      go_wp2_with fail
      refine has2.mono ?_
      rintro e w8 ⟨v2, rfl, hown2, hb8⟩
      have hB8 : Below w.heap.size w w8 := hB7.trans (hb8.mono hB7.size)
      have heq := eq_same (own_below hown1 hb8 (Nat.le_refl _)) hown2
      have HB8 := hidE hb8
      obtain ⟨ad4, cp4, hv2⟩ := own_len hown2
      subst hv2
      clear has2 hown1 hown2 hb7 hb8 hB7
      go_wp2_with fail
      refine ⟨rfl, HB8.out, ?_⟩
      refine turn_n rfl ?_
      go_wp2_with fail
      refine heq.mono ?_
      rintro e w9 ⟨rfl, hb9⟩
      have HB9 : Hid (Below w.heap.size w w9) := hB8.trans (hb9.mono hB8.size)
      have HB9' := hidE hb9
      clear heq hB8 hb9
      go_wp2_with fail
      refine ⟨rfl, HB9'.out, ?_⟩
      repeat (first | refine turn_p rfl ?_ | refine turn_q rfl ?_); go_big_quiet_step (fail); refine wpQuiet_nil ?_
      refine turn_nil ?_
      clear HB7 HB8 HB9' hBd
      go_wp2
      go_roundw
      case rel => exact ⟨k + 1, by omega, by go_num, HB9⟩
      case measure => simp [intOf]; omega
    · go_wp2
      go_ret
      exact ⟨rfl, HB.out⟩
end Go.Proofs.YtdkhohlhdiekmaaGreatDoor
