/- The document's own book in memory; the walks of its known, History, As. (Written by gen_refbook.py.) The walks of the document's own Void, Post. (Written by gen_refacts.py.) The walk of the document's own Correct. (Written by gen_refacts.py.) -/
import Derived.Test.YtcfgacdcgljbaaaGreatDoorBnD
import Derived.Test.YtcfgacdcgljbaaaGreatDoorRefOrdered
import Derived.Test.YtcfgacdcgljbaaaGreatDoorBnF
namespace Go.Proofs.YtcfgacdcgljbaaaGreatDoor
open Go.RowKit
structure RAt (w : World) (B pb : Nat) (sv : Value) (b : Bk) : Prop where
  c0 : w.cell? ⟨pb, 0, none⟩ = some sv
  c1 : w.cell? ⟨pb, 1, none⟩ = some (.int .i64 b.n)
  c2 : w.cell? ⟨pb, 2, none⟩ = some (.int .i64 b.g)
  f0 : w.frozen? ⟨pb, 0, none⟩ = false
  f1 : w.frozen? ⟨pb, 1, none⟩ = false
  f2 : w.frozen? ⟨pb, 2, none⟩ = false
  own : w.ownsRow B 143 9 sv b.vs.length (b.vs.flatMap vrC)
  ne : sv.ownBlock ≠ some pb
  ge : B ≤ pb
theorem RAt.lt {w : World} {B pb : Nat} {sv : Value} {b : Bk} (h : RAt w B pb sv b) : pb < w.heap.size := World.block_lt_of_cell? _ _ h.c0
theorem RAt.below {w w' : World} {B pb : Nat} {sv : Value} {b : Bk} (h : RAt w B pb sv b) (hb : Below w.heap.size w w') : RAt w' B pb sv b :=
  ⟨below_cell hb h.c0, below_cell hb h.c1, below_cell hb h.c2, (hb.frozen (p := ⟨pb, 0, none⟩) h.lt).trans h.f0, (hb.frozen (p := ⟨pb, 1, none⟩) h.lt).trans h.f1, (hb.frozen (p := ⟨pb, 2, none⟩) h.lt).trans h.f2, own_below h.own hb (Nat.le_refl _), h.ne, h.ge⟩
theorem RAt.block {w : World} {B pb : Nat} {sv : Value} {b : Bk} (h : RAt w B pb sv b) : ∀ k, sv.ownBlock = some k → B ≤ k ∧ k < w.heap.size := h.own.lt
theorem Turned.rbelow {w0 w w' : World} {B pb : Nat} {sv : Value} {b : Bk} (h : Turned w w' pb sv) (ha : RAt w B pb sv b) (hb : Below B w0 w) (hB : B ≤ w.heap.size) : Below B w0 w' :=
  hb.trans ⟨h.os, h.tape, h.output, h.size, fun k hk => h.block k (by omega) (by have := ha.ge; omega) (fun e => by have := (ha.block k e).1; omega)⟩
theorem RAt.put0 {w : World} {B pb : Nat} {sv sv' : Value} {b : Bk} {vs : List Vr} (c0 : w.cell? ⟨pb, 0, none⟩ = some sv) (c1 : w.cell? ⟨pb, 1, none⟩ = some (.int .i64 b.n)) (c2 : w.cell? ⟨pb, 2, none⟩ = some (.int .i64 b.g))
    (f0 : w.frozen? ⟨pb, 0, none⟩ = false) (f1 : w.frozen? ⟨pb, 1, none⟩ = false) (f2 : w.frozen? ⟨pb, 2, none⟩ = false) (own : w.ownsRow B 143 9 sv' vs.length (vs.flatMap vrC)) (ne : sv'.ownBlock ≠ some pb) (ge : B ≤ pb) :
    RAt (w.setCell ⟨pb, 0, none⟩ sv') B pb sv' { b with vs := vs } :=
  ⟨set_same c0, (set_other (by simp)).trans c1, (set_other (by simp)).trans c2, set_frz.trans f0, set_frz.trans f1, set_frz.trans f2, ownsRow_setCell_other own ne _, ne, ge⟩
theorem RAt.put1 {w : World} {B pb : Nat} {sv : Value} {b : Bk} (h : RAt w B pb sv b) (n : Int) : RAt (w.setCell ⟨pb, 1, none⟩ (.int .i64 n)) B pb sv { b with n := n } :=
  ⟨(set_other (by simp)).trans h.c0, set_same h.c1, (set_other (by simp)).trans h.c2, set_frz.trans h.f0, set_frz.trans h.f1, set_frz.trans h.f2, ownsRow_setCell_other h.own h.ne _, h.ne, h.ge⟩
theorem RAt.put2 {w : World} {B pb : Nat} {sv : Value} {b : Bk} (h : RAt w B pb sv b) (n : Int) : RAt (w.setCell ⟨pb, 2, none⟩ (.int .i64 n)) B pb sv { b with g := n } :=
  ⟨(set_other (by simp)).trans h.c0, (set_other (by simp)).trans h.c1, set_same h.c2, set_frz.trans h.f0, set_frz.trans h.f1, set_frz.trans h.f2, ownsRow_setCell_other h.own h.ne _, h.ne, h.ge⟩
theorem RAt.row {w : World} {B pb g cap : Nat} {b : Bk} (h : RAt w B pb (.slice (some ⟨g, 0, none⟩) b.vs.length cap) b) (k : Nat) (hk : k < b.vs.length) (t : Int) :
    RAt (w.setCell ⟨g, k * 9 + 8, none⟩ (.int .i64 t)) B pb (.slice (some ⟨g, 0, none⟩) b.vs.length cap) ⟨setTo b.vs k t, b.n, b.g⟩ := by
  have hne : g ≠ pb := fun e => h.ne (by simp [Value.ownBlock, e])
  have e : ((setTo b.vs k t).flatMap vrC) = (b.vs.flatMap vrC).set (k * 9 + 8) (.int .i64 t) := by
    rw [setTo_is _ _ _ hk]
    exact flatMap_set vrC 9 vrC_len 8 _ (by decide) _ _ k hk rfl
  have c (o : Nat) : (⟨g, k * 9 + 8, none⟩ : Addr) ≠ ⟨pb, o, none⟩ := fun e => hne (by injection e)
  refine ⟨(set_other (c 0)).trans h.c0, (set_other (c 1)).trans h.c1, (set_other (c 2)).trans h.c2, set_frz.trans h.f0, set_frz.trans h.f1, set_frz.trans h.f2, ?_, h.ne, h.ge⟩
  show World.ownsRow _ _ _ _ _ (setTo b.vs k t).length ((setTo b.vs k t).flatMap vrC)
  rw [e, setTo_len]
  exact own_set h.own _ _
theorem RAt.some {w : World} {B pb : Nat} {sv : Value} {b : Bk} (h : RAt w B pb sv b) (hn : 0 < b.vs.length) : ∃ g cap, sv = .slice (some ⟨g, 0, none⟩) b.vs.length cap := by
  rcases own_form h.own with ⟨_, h0, _⟩ | ⟨g, cap, e, _⟩
  · omega
  · exact ⟨g, cap, e⟩
theorem Tryz.infoRv : (Tryz.prog.info? 143).map (fun i => (i.zero, i.size, i.bytes)) = some (some vrZ, 9, 80) := by kernel_rfl
theorem kIx_of {vs : List Vr} {id : Int} {k : Nat} (hk : k < vs.length) (h1 : isK id vs[k] = true) (h2 : ∀ j (hj : j < vs.length), j < k → isK id vs[j] = false) : kIx vs id = k := by
  rcases kIx_spec vs id with ⟨_, h⟩ | ⟨k', hk', h, h3, h4⟩
  · have := h vs[k] (List.getElem_mem hk)
    rw [h1] at this
    cases this
  · have : k' = k := by
      rcases Nat.lt_trichotomy k k' with x | x | x
      · have := h4 k hk x; rw [h1] at this; cases this
      · exact x.symm
      · have := h2 k' hk' x; rw [h3] at this; cases this
    rw [h, this]
theorem kIx_none {vs : List Vr} {id : Int} (h2 : ∀ j (hj : j < vs.length), isK id vs[j] = false) : kIx vs id = -1 := by
  rcases kIx_spec vs id with ⟨h, _⟩ | ⟨k', hk', h, h3, h4⟩
  · exact h
  · have := h2 k' hk'; rw [h3] at this; cases this
set_option maxRecDepth 20000 in
set_option maxHeartbeats 4000000 in
theorem rknown_any {B pb : Nat} {sv : Value} {b : Bk} {w : World} (h : RAt w B pb sv b) (hl : b.vs.length ≤ 1000000) (id : Int) :
    Calls Tryz.prog 95 #[.pointer (some ⟨pb, 0, none⟩), .int .i64 id] w fun e w' => e = .returned (.int .i64 (kIx b.vs id)) ∧ Below w.heap.size w w' := by
  have hc0 := h.c0
  have hown := h.own
  generalize b.vs = vs at hl hown
  clear h
  rcases own_form hown with ⟨hv, hn, _⟩ | ⟨g, cap, hv, _, hgl, _⟩
  · subst hv
    have e : vs = [] := List.length_eq_zero_iff.1 hn
    subst e
    have hk : kIx [] id = -1 := kIx_none fun j hj => absurd hj (Nat.not_lt_zero _)
    rw [hk]
    go_enter Tryz.func95, Tryz.ntmps95
    go_wp2
    refine wp_loop_rounds 1 ?_
    rw [rounds_succ]
    go_wp2
    go_ret
    exact ⟨rfl, Below.refl _ _⟩
  · subst hv
    have HO : Hid (w.ownsRow B 143 9 (.slice (some ⟨g, 0, none⟩) vs.length cap) vs.length (vs.flatMap vrC)) := hown
    clear hown
    obtain ⟨ix, hix⟩ : ∃ ix, ix = kIx vs id := ⟨_, rfl⟩
    have HI : Hid (ix = kIx vs id) := hix
    rw [← hix]
    clear hix
    go_enter Tryz.func95, Tryz.ntmps95
    go_wp2
    go_loopw [12] (fun i wr => ∃ k : Nat, k ≤ vs.length ∧ i = .int .i64 k ∧ Hid (∀ j (hj : j < vs.length), j < k → isK id vs[j] = false) ∧ Hid (Below w.heap.size w wr)) (fun i _ => vs.length - (intOf i).toNat)
    case atStart => exact ⟨0, Nat.zero_le _, rfl, fun j _ hj => absurd hj (Nat.not_lt_zero _), Below.refl _ _⟩
    case round =>
      obtain ⟨k, hk, rfl, HF, HB⟩ := hrel
      by_cases hlt : k < vs.length
      · obtain ⟨x, hx⟩ : ∃ x, x = vs[k] := ⟨_, rfl⟩
        have hcw : ∀ j, j < 9 → wr.cell? ⟨g, k * 9 + j, none⟩ = (vrC x)[j]? := fun j hj => by
          rw [HB.out.cell (p := ⟨g, k * 9 + j, none⟩) hgl, (own_cell vrC_len HO.out k j hlt hj).1, hx]
        have HX : Hid (x = vs[k]) := hx
        clear hx
        obtain ⟨⟨id2, item, kind, qty, price, ofI, day⟩, fr, tq⟩ := x
        have q0 := hcw 0 (by omega)
        have q1 := hcw 1 (by omega)
        have q2 := hcw 2 (by omega)
        have q3 := hcw 3 (by omega)
        have q4 := hcw 4 (by omega)
        have q5 := hcw 5 (by omega)
        have q6 := hcw 6 (by omega)
        have q7 := hcw 7 (by omega)
        have q8 := hcw 8 (by omega)
        simp only [vrC, List.getElem?_cons_zero, List.getElem?_cons_succ, Nat.add_zero] at q0 q1 q2 q3 q4 q5 q6 q7 q8
        clear hcw
        have hkz : (k : Int) < (vs.length : Int) := by omega
        have HB2 : ∀ o, Below w.heap.size w (wr.alloc o) := fun o => HB.out.alloc HB.out.size o
        by_cases h1 : id2 = id
        · by_cases h2 : tq = 0
          · subst h1 h2
            have hkk : kIx vs id2 = k := kIx_of hlt (by rw [← HX.out]; simp [isK]) HF.out
            have HKK : Hid (ix = (k : Int)) := HI.out.trans hkk
            clear hkk
            go_wp2
            go_ret
            refine ⟨by rw [HKK.out]; rfl, HB2 _⟩
          · subst h1
            have HF2 : Hid (∀ j (hj : j < vs.length), j < k + 1 → isK id2 vs[j] = false) := fun j hj hjk => by
              rcases Nat.lt_or_ge j k with y | y
              · exact HF.out j hj y
              · obtain rfl : j = k := by omega
                rw [← HX.out]; simp [isK, h2]
            have h2b : (tq == 0) = false := by simpa using h2
            go_wp2
            go_roundw
            case rel => exact ⟨k + 1, by omega, by go_num, HF2, HB2 _⟩
            case measure => simp [intOf]; omega
        · have HF2 : Hid (∀ j (hj : j < vs.length), j < k + 1 → isK id vs[j] = false) := fun j hj hjk => by
            rcases Nat.lt_or_ge j k with y | y
            · exact HF.out j hj y
            · obtain rfl : j = k := by omega
              rw [← HX.out]; simp [isK, h1]
          have h1b : (id2 == id) = false := by simpa using h1
          go_wp2
          go_roundw
          case rel => exact ⟨k + 1, by omega, by go_num, HF2, HB2 _⟩
          case measure => simp [intOf]; omega
      · have hkk : kIx vs id = -1 := kIx_none fun j hj => HF.out j hj (by omega)
        have HKK : Hid (ix = -1) := HI.out.trans hkk
        have hkz : ¬ (k : Int) < (vs.length : Int) := by omega
        clear hkk
        go_wp2
        go_ret
        exact ⟨by rw [HKK.out]; rfl, HB.out⟩
end Go.Proofs.YtcfgacdcgljbaaaGreatDoor
namespace Go.Proofs.YtcfgacdcgljbaaaGreatDoor
open Go.RowKit
theorem RAt.other {w : World} {B pb : Nat} {sv : Value} {b : Bk} {c : Nat} (h : RAt w B pb sv b) (hc : c ≠ pb) (hs : sv.ownBlock ≠ Option.some c) (o : Nat) (v : Value) : RAt (w.setCell ⟨c, o, none⟩ v) B pb sv b := by
  have n (k : Nat) : (⟨c, o, none⟩ : Addr) ≠ ⟨pb, k, none⟩ := fun e => hc (by injection e)
  exact ⟨(set_other (n 0)).trans h.c0, (set_other (n 1)).trans h.c1, (set_other (n 2)).trans h.c2, set_frz.trans h.f0, set_frz.trans h.f1, set_frz.trans h.f2, ownsRow_setCell_other h.own hs _, h.ne, h.ge⟩
theorem turned_new {w W : World} {pb : Nat} {sv : Value} {c : Nat} (h : Turned w W pb sv) (hc : w.heap.size ≤ c) (o : Nat) (v : Value) : Turned w (W.setCell ⟨c, o, none⟩ v).drew pb sv :=
  ⟨h.os, h.tape, h.output, by have := h.size; simpa [World.setCell] using this, fun k hk hp hs => (Below.heap_setCell _ _ _ _ (by show k ≠ c; omega)).trans (h.block k hk hp hs)⟩
theorem EvAt.id_set {w : World} {c : Nat} {e : Ev} (h : EvAt w c e) (i : Int) : EvAt (w.setCell ⟨c, 0, none⟩ (.int .i64 i)) c { e with id := i } :=
  ⟨set_same h.c0, (set_other (by simp)).trans h.c1, (set_other (by simp)).trans h.c2, (set_other (by simp)).trans h.c3, (set_other (by simp)).trans h.c4, (set_other (by simp)).trans h.c5, (set_other (by simp)).trans h.c6⟩
set_option maxRecDepth 20000 in
set_option maxHeartbeats 4000000 in
theorem rvoid_no {B pb : Nat} {sv : Value} {b : Bk} {w : World} (h : RAt w B pb sv b) (hl : b.vs.length ≤ 1000000) (id : Int) (hk : kIx b.vs id = -1) :
    Calls Tryz.prog 44 #[.pointer (some ⟨pb, 0, none⟩), .int .i64 id] w fun r w' => r = .returned (.int .i64 7) ∧ Below w.heap.size w w' := by
  have hcon := rknown_any h hl id
  rw [hk] at hcon
  clear h
  go_enter Tryz.func44, Tryz.ntmps44
  go_wp2_with fail
  refine hcon.mono ?_
  rintro e w' ⟨rfl, hb⟩
  go_wp2
  go_ret
  exact ⟨rfl, hb⟩
set_option maxRecDepth 20000 in
set_option maxHeartbeats 4000000 in
theorem rvoid_yes {B pb g cap : Nat} {b : Bk} {w : World} (h : RAt w B pb (.slice (some ⟨g, 0, none⟩) b.vs.length cap) b) (hl : b.vs.length ≤ 1000000) (h0 : 0 ≤ b.n) (h1 : b.n ≤ 1000000) (id : Int) (k : Nat) (hkl : k < b.vs.length) (hk : kIx b.vs id = k) :
    Calls Tryz.prog 44 #[.pointer (some ⟨pb, 0, none⟩), .int .i64 id] w fun r w' => r = .returned (.int .i64 0) ∧ RAt w' B pb (.slice (some ⟨g, 0, none⟩) b.vs.length cap) (endB b k) ∧ Turned w w' pb (.slice (some ⟨g, 0, none⟩) b.vs.length cap) := by
  have hcon := rknown_any h hl id
  rw [hk] at hcon
  go_enter Tryz.func44, Tryz.ntmps44
  go_wp2_with fail
  refine hcon.mono ?_
  rintro e w1 ⟨rfl, hb⟩
  have H1 := h.below hb
  have c0 := H1.c0
  have c1 := H1.c1
  have f1 := H1.f1
  clear hcon
  have hkz : (k : Int) < (b.vs.length : Int) := by omega
  go_wp2_with fail
  refine wp_region_turn [(.pure, 0), (.pure, 1), (.pure, 2), (.read, 3), (.pure, 4), (.pure, 5), (.pure, 6), (.pure, 7), (.read, 8), (.pure, 9), (.pure, 10), (.turn, 11)] (by kernel_rfl) (by kernel_rfl) ?_
  obtain ⟨W1, hW⟩ : ∃ W, W = (w1.setCell ⟨pb, 1, none⟩ (.int .i64 (b.n + 1))).drew := ⟨_, rfl⟩
  rw [← hW]
  have H2 : RAt W1 B pb (.slice (some ⟨g, 0, none⟩) b.vs.length cap) ⟨b.vs, b.n + 1, b.g⟩ := by
    rw [hW]; exact (H1.put1 (b.n + 1)).below (below_drew _)
  have T2 : Turned w W1 pb (.slice (some ⟨g, 0, none⟩) b.vs.length cap) := by
    rw [hW]; exact ((Turned.of_below hb).trans (turned_set _ _ _ _ _) (Fresh.refl _ _)).trans (Turned.of_below (below_drew _)) (Fresh.refl _ _)
  clear hW c0 c1 f1 hk
  have hcell := own_cell vrC_len H2.own k 8 hkl (by decide)
  have r8 := hcell.1
  have rf := hcell.2
  simp only [vrC, List.getElem?_cons_zero, List.getElem?_cons_succ] at r8
  clear hcell
  have hU := up_ne
  have hA := anyW_ne
  have g0 := fun n : Up W1 => n.cell H2.c0
  have g1 := fun n : Up W1 => n.cell H2.c1
  simp only at g0 g1
  repeat (first | refine turn_p rfl ?_ | refine turn_q rfl ?_); go_big_quiet_step (fail); refine wpQuiet_nil ?_
  refine turn_t rfl ?_
  go_wp2_with fail
  refine ⟨rfl, ?_⟩
  refine turn_nil ?_
  have hfin := RAt.row (b := ⟨b.vs, b.n + 1, b.g⟩) H2 k hkl (b.n + 1)
  have htur := T2.trans (turned_row W1 g (k * 9 + 8) pb (.slice (some ⟨g, 0, none⟩) b.vs.length cap) (.int .i64 (b.n + 1)) rfl) (Fresh.refl _ _)
  go_wp2
  go_ret
  exact ⟨rfl, hfin, htur⟩
set_option maxRecDepth 20000 in
set_option maxHeartbeats 4000000 in
theorem rpost_bad {B pb : Nat} {sv : Value} {b : Bk} {w : World} (_h : RAt w B pb sv b) (e : Ev) (he : EvW e) (hr : ¬ Rt e) :
    Calls Tryz.prog 39 #[.pointer (some ⟨pb, 0, none⟩), evV e] w fun r w' => r = .returned (.tuple #[.int .i64 0, .int .i64 1]) ∧ Below w.heap.size w w' := by
  have hB1 : Below w.heap.size w (w.alloc (.cells (evC e).toArray 44)) := (Below.refl _ _).alloc (Nat.le_refl _) _
  have hrt := fun W => rright_any e W he
  have HE : Hid (EvAt (w.alloc (.cells (evC e).toArray 44)) w.heap.size e) := by unfold Hid evC; constructor <;> simp
  have HR : Hid (¬ Rt e) := hr
  clear hr HE
  generalize Rt e = P at hrt HR
  obtain ⟨id0, item, kind, qty, price, ofI, day⟩ := e
  unfold evV at hrt ⊢
  simp only at hrt ⊢
  go_enter Tryz.func39, Tryz.ntmps39
  go_wp2_with fail
  refine (hrt _).mono ?_
  rintro r w1 ⟨⟨bv, rfl, hbv⟩, hb⟩
  obtain rfl : bv = false := by
    cases bv with
    | false => rfl
    | true => exact absurd (hbv.1 rfl) HR.out
  clear hrt
  go_wp2
  go_ret2
  exact ⟨rfl, hB1.trans (hb.mono (by simp))⟩
set_option maxRecDepth 20000 in
set_option maxHeartbeats 4000000 in
theorem rpost_full {B pb : Nat} {sv : Value} {b : Bk} {w : World} (h : RAt w B pb sv b) (e : Ev) (he : EvW e) (hr : Rt e) (hf : 120 ≤ b.vs.length) :
    Calls Tryz.prog 39 #[.pointer (some ⟨pb, 0, none⟩), evV e] w fun r w' => r = .returned (.tuple #[.int .i64 0, .int .i64 12]) ∧ Below w.heap.size w w' := by
  have hB1 : Below w.heap.size w (w.alloc (.cells (evC e).toArray 44)) := (Below.refl _ _).alloc (Nat.le_refl _) _
  have hrt := fun W => rright_any e W he
  have HE : Hid (EvAt (w.alloc (.cells (evC e).toArray 44)) w.heap.size e) := by unfold Hid evC; constructor <;> simp
  have HR : Hid (Rt e) := hr
  clear hr HE
  generalize Rt e = P at hrt HR
  obtain ⟨ad, cap, rfl⟩ := own_len h.own
  have H1 := h.below hB1
  obtain ⟨id0, item, kind, qty, price, ofI, day⟩ := e
  unfold evV at hrt ⊢
  simp only at hrt ⊢
  have hz : (120 : Int) ≤ (b.vs.length : Int) := by omega
  clear hf
  go_enter Tryz.func39, Tryz.ntmps39
  go_wp2_with fail
  refine (hrt _).mono ?_
  rintro r w1 ⟨⟨bv, rfl, hbv⟩, hb⟩
  obtain rfl : bv = true := hbv.2 HR.out
  have c0 := (H1.below hb).c0
  clear hrt H1 hbv h HR
  go_wp2
  go_ret2
  exact ⟨rfl, hB1.trans (hb.mono (by simp))⟩
set_option maxRecDepth 20000 in
set_option maxHeartbeats 4000000 in
theorem rpost_yes {B pb : Nat} {sv : Value} {b : Bk} {w : World} (h : RAt w B pb sv b) (h0 : 0 ≤ b.n) (h1 : b.n ≤ 1000000) (g0 : 0 ≤ b.g) (g1 : b.g ≤ 1000000) (e : Ev) (he : EvW e) (hr : Rt e) (hlen : b.vs.length < 120) :
    Calls Tryz.prog 39 #[.pointer (some ⟨pb, 0, none⟩), evV e] w fun r w' => r = .returned (.tuple #[.int .i64 (b.g + 1), .int .i64 0]) ∧ ∃ sv', RAt w' B pb sv' (postB b e) ∧ Turned w w' pb sv ∧ Fresh w sv sv' := by
  obtain ⟨i0, hi, hz0, hz1, hz2⟩ := info_parts Tryz.infoRv
  have hB1 : Below w.heap.size w (w.alloc (.cells (evC e).toArray 44)) := (Below.refl _ _).alloc (Nat.le_refl _) _
  have hrt := fun W => rright_any e W he
  have HE : Hid (EvAt (w.alloc (.cells (evC e).toArray 44)) w.heap.size e) := by unfold Hid evC; constructor <;> simp
  have HR : Hid (Rt e) := hr
  clear hr
  generalize Rt e = P at hrt HR
  obtain ⟨ad, cap, rfl⟩ := own_len h.own
  have H1 := h.below hB1
  have HP : Hid (postB b e = { (⟨b.vs, b.n + 1, b.g + 1⟩ : Bk) with vs := b.vs ++ [⟨{ e with id := b.g + 1 }, b.n + 1, 0⟩] }) := rfl
  rw [HP.out]
  clear HP
  have HLL : Hid (b.vs.length < 120) := hlen
  obtain ⟨id0, item, kind, qty, price, ofI, day⟩ := e
  unfold evV at hrt ⊢
  simp only at hrt ⊢
  have hz : ¬ (120 : Int) ≤ (b.vs.length : Int) := by omega
  go_enter Tryz.func39, Tryz.ntmps39
  go_wp2_with fail
  refine (hrt _).mono ?_
  rintro r w1 ⟨⟨bv, rfl, hbv⟩, hb⟩
  obtain rfl : bv = true := hbv.2 HR.out
  have H2 := H1.below hb
  have E2 := HE.out.below hb
  have T1 : Turned w w1 pb (.slice ad b.vs.length cap) := .of_below (hB1.trans (hb.mono (by simp)))
  have c0 := H2.c0
  have c1 := H2.c1
  have c2 := H2.c2
  have f1 := H2.f1
  have f2 := H2.f2
  have e0 := E2.c0
  have e0f : w1.frozen? ⟨w.heap.size, 0, none⟩ = false := by
    rw [hb.frozen (p := ⟨w.heap.size, 0, none⟩) (by simp)]; simp
  have hpl : pb ≠ w.heap.size := by have := h.lt; omega
  have hpl2 : w.heap.size ≠ pb := fun e => hpl e.symm
  clear hrt hbv HE
  go_wp2_with fail
  refine wp_region_turn [(.pure, 0), (.pure, 1), (.pure, 2), (.pure, 3), (.read, 4), (.read, 5), (.pure, 6), (.pure, 7), (.pure, 8), (.read, 9), (.pure, 10), (.make, 11), (.turn, 12), (.pure, 13), (.pure, 14), (.turn, 15)] (by kernel_rfl) (by kernel_rfl) ?_
  obtain ⟨W0, hW⟩ : ∃ W, W = (((w1.setCell ⟨pb, 2, none⟩ (.int .i64 (b.g + 1))).setCell ⟨pb, 1, none⟩ (.int .i64 (b.n + 1))).setCell ⟨w.heap.size, 0, none⟩ (.int .i64 (b.g + 1))).drew := ⟨_, rfl⟩
  rw [← hW]
  have hob (k : Nat) (v : Value) (W : World) (b' : Bk) (hh : RAt W B pb (.slice ad b.vs.length cap) b') : RAt (W.setCell ⟨w.heap.size, k, none⟩ v) B pb (.slice ad b.vs.length cap) b' := RAt.other hh hpl2 (fun e => by have := (h.block _ e).2; omega) _ _
  have HB : RAt W0 B pb (.slice ad b.vs.length cap) ⟨b.vs, b.n + 1, b.g + 1⟩ := by
    rw [hW]; exact (hob _ _ _ _ ((H2.put2 (b.g + 1)).put1 (b.n + 1))).below (below_drew _)
  have T3 : Turned w W0 pb (.slice ad b.vs.length cap) := by
    rw [hW]; exact turned_new ((T1.trans (turned_set _ _ _ _ _) (Fresh.refl _ _)).trans (turned_set _ _ _ _ _) (Fresh.refl _ _)) (Nat.le_refl _) _ _
  have hE : EvAt W0 w.heap.size ⟨b.g + 1, item, kind, qty, price, ofI, day⟩ := by
    rw [hW]; exact (((E2.set ⟨pb, 2, none⟩ _ hpl).set ⟨pb, 1, none⟩ _ hpl).id_set (b.g + 1)).below (below_drew _)
  clear hW c0 c1 c2 f1 f2 e0 e0f H1 H2 E2 T1 hB1 hb
  have hU := up_ne
  have hA := anyW_ne
  have f0 := fun n : Up W0 => (hE.up n).c0
  have f1 := fun n : Up W0 => (hE.up n).c1
  have f2 := fun n : Up W0 => (hE.up n).c2
  have f3 := fun n : Up W0 => (hE.up n).c3
  have f4 := fun n : Up W0 => (hE.up n).c4
  have f5 := fun n : Up W0 => (hE.up n).c5
  have f6 := fun n : Up W0 => (hE.up n).c6
  have g0 := fun n : Up W0 => n.cell HB.c0
  have g1 := fun n : Up W0 => n.cell HB.c1
  simp only at f0 f1 f2 f3 f4 f5 f6 g0 g1
  repeat (first | refine turn_p rfl ?_ | refine turn_q rfl ?_); go_big_quiet_step (fail); refine wpQuiet_nil ?_
  refine turn_n rfl ?_
  go_wp2_with fail
  refine ⟨rfl, (Below.refl _ _).alloc (Nat.le_refl _) _, ?_⟩
  clear f0 f1 f2 f3 f4 f5 f6 g0 g1
  refine turn_t rfl ?_
  refine wpList_append_new _ rfl _ _ 32 rfl B 143 i0 vrZ 9 80 Tryz.underlying32 hi hz0 hz1 hz2 rfl (by decide) (.slice ad b.vs.length cap) _ _ rfl (HB.own.alloc _) ⟨W0.heap.size, 0, none⟩ 1 1 (vrC ⟨⟨b.g + 1, item, kind, qty, price, ofI, day⟩, (b.n + 1), 0⟩) rfl rfl ?d1 ?d2 ?d3 ?d4 ?d5 (by decide) ?_
  case d1 => exact cells_of_list rfl
  case d2 => exact vrC_one _
  case d3 => have := HLL.out; simp only [maxLen]; omega
  case d4 => have := HLL.out; simp only; omega
  case d5 => have := HB.ge; have := HB.lt; simp; omega
  intro v' w2 hown2 hgr hfr
  obtain ⟨W1, hW1⟩ : ∃ W, W = W0.alloc (.cells (vrC ⟨⟨b.g + 1, item, kind, qty, price, ofI, day⟩, (b.n + 1), 0⟩).toArray 143) := ⟨_, rfl⟩
  have hB1 : Below W0.heap.size W0 W1 := by rw [hW1]; exact (Below.refl _ _).alloc (Nat.le_refl _) _
  have HB1 := HB.below hB1
  have E1 := hE.below hB1
  have hgr' : W1.grownBy w2 (Value.ownBlock (.slice ad b.vs.length cap)) := by rw [hW1]; exact hgr
  have e2 : w2.heap[pb]? = W1.heap[pb]? := hgr'.block pb HB1.lt (fun e => HB.ne e.symm)
  have k0 : w2.cell? ⟨pb, 0, none⟩ = some (.slice ad b.vs.length cap) := (World.cell?_of_block (a := ⟨pb, 0, none⟩) e2).trans HB1.c0
  have k1 : w2.cell? ⟨pb, 1, none⟩ = some (.int .i64 (b.n + 1)) := (World.cell?_of_block (a := ⟨pb, 1, none⟩) e2).trans HB1.c1
  have k2 : w2.cell? ⟨pb, 2, none⟩ = some (.int .i64 (b.g + 1)) := (World.cell?_of_block (a := ⟨pb, 2, none⟩) e2).trans HB1.c2
  have z0 : w2.frozen? ⟨pb, 0, none⟩ = false := (World.frozen?_of_block (a := ⟨pb, 0, none⟩) e2).trans HB1.f0
  have z1 : w2.frozen? ⟨pb, 1, none⟩ = false := (World.frozen?_of_block (a := ⟨pb, 1, none⟩) e2).trans HB1.f1
  have z2 : w2.frozen? ⟨pb, 2, none⟩ = false := (World.frozen?_of_block (a := ⟨pb, 2, none⟩) e2).trans HB1.f2
  have HO : Hid (w2.ownsRow B 143 9 v' (b.vs.length + 1) (b.vs.flatMap vrC ++ vrC ⟨⟨b.g + 1, item, kind, qty, price, ofI, day⟩, (b.n + 1), 0⟩)) := hown2
  have hg2 : W1.heap.size ≤ w2.heap.size := hgr'.size
  have hfv : Fresh W0 (.slice ad b.vs.length cap) v' := hfr.grow (by simp)
  have hbx : w2.heap[w.heap.size]? = W1.heap[w.heap.size]? := hgr'.block w.heap.size (World.block_lt_of_cell? _ _ E1.c0) (fun e => by have := (h.block _ e.symm).2; omega)
  have x0 : w2.cell? ⟨w.heap.size, 0, none⟩ = some (.int .i64 (b.g + 1)) := (World.cell?_of_block (a := ⟨w.heap.size, 0, none⟩) hbx).trans E1.c0
  clear hown2 hgr hfr hW1
  obtain ⟨g2, cap2, hv2, hg2B, hg2l, _⟩ : ∃ g cap, v' = .slice (some ⟨g, 0, none⟩) (b.vs.length + 1) cap ∧ B ≤ g ∧ g < w2.heap.size ∧ True := by
    rcases own_form HO.out with ⟨_, hn, _⟩ | ⟨g, cap, hv, h1, h2, _⟩
    · omega
    · exact ⟨g, cap, hv, h1, h2, trivial⟩
  subst hv2
  have hne : Value.ownBlock (.slice (some ⟨g2, 0, none⟩) (b.vs.length + 1) cap2) ≠ some pb := fun e => by
    rcases hfv pb e with h1 | h1
    · exact HB.ne h1
    · have := HB.lt; omega
  have hfin := RAt.put0 (b := ⟨b.vs, b.n + 1, b.g + 1⟩) (vs := b.vs ++ [⟨⟨b.g + 1, item, kind, qty, price, ofI, day⟩, (b.n + 1), 0⟩]) k0 k1 k2 z0 z1 z2 (by simpa using HO.out) hne HB.ge
  have HFIN : Hid _ := hfin
  have htur : Turned w (w2.setCell ⟨pb, 0, none⟩ (.slice (some ⟨g2, 0, none⟩) (b.vs.length + 1) cap2)) pb (.slice ad b.vs.length cap) :=
    (T3.trans ((Turned.of_below hB1).trans (grown_turned hgr') (Fresh.refl _ _)) (Fresh.refl _ _)).trans (turned_set _ _ _ _ _) (Fresh.refl _ _)
  have hfw : Fresh w (.slice ad b.vs.length cap) (.slice (some ⟨g2, 0, none⟩) (b.vs.length + 1) cap2) := hfv.grow T3.size
  have HTUR : Hid _ := htur
  have HFW : Hid _ := hfw
  clear hfin htur hfw
  go_wp2_with fail
  refine ⟨rfl, ?_⟩
  repeat (first | refine turn_p rfl ?_ | refine turn_q rfl ?_); go_big_quiet_step (fail); refine wpQuiet_nil ?_
  refine turn_t rfl ?_
  go_wp2_with fail
  refine ⟨rfl, ?_⟩
  refine turn_nil ?_
  have hpw : (⟨pb, 0, none⟩ : Addr) ≠ ⟨w.heap.size, 0, none⟩ := fun e => by injection e with e; have := h.lt; omega
  have x1 : (w2.setCell ⟨pb, 0, none⟩ (.slice (some ⟨g2, 0, none⟩) (b.vs.length + 1) cap2)).cell? ⟨w.heap.size, 0, none⟩ = some (.int .i64 (b.g + 1)) := (set_other hpw).trans x0
  clear x0 k0 k1 k2 z0 z1 z2 hpw
  go_wp2
  go_ret2
  exact ⟨rfl, _, HFIN.out, HTUR.out, HFW.out⟩
end Go.Proofs.YtcfgacdcgljbaaaGreatDoor
namespace Go.Proofs.YtcfgacdcgljbaaaGreatDoor
open Go.RowKit
set_option maxRecDepth 20000 in
set_option maxHeartbeats 4000000 in
theorem rcorr_miss {B pb : Nat} {sv : Value} {b : Bk} {w : World} (h : RAt w B pb sv b) (hl : b.vs.length ≤ 1000000) (id : Int) (e : Ev) (hk : kIx b.vs id = -1) :
    Calls Tryz.prog 42 #[.pointer (some ⟨pb, 0, none⟩), .int .i64 id, evV e] w fun r w' => r = .returned (.int .i64 7) ∧ Below w.heap.size w w' := by
  have hB1 : Below w.heap.size w (w.alloc (.cells (evC e).toArray 44)) := (Below.refl _ _).alloc (Nat.le_refl _) _
  have hcon := rknown_any (h.below hB1) hl id
  rw [hk] at hcon
  obtain ⟨id0, item, kind, qty, price, ofI, day⟩ := e
  unfold evV
  simp only
  clear h
  go_enter Tryz.func42, Tryz.ntmps42
  go_wp2_with fail
  refine hcon.mono ?_
  rintro r w1 ⟨rfl, hb⟩
  go_wp2
  go_ret
  exact ⟨rfl, hB1.trans (hb.mono (by simp))⟩
set_option maxRecDepth 20000 in
set_option maxHeartbeats 4000000 in
theorem rcorr_bad {B pb : Nat} {sv : Value} {b : Bk} {w : World} (h : RAt w B pb sv b) (hl : b.vs.length ≤ 1000000) (id : Int) (e : Ev) (he : EvW e) (k : Nat) (hk : kIx b.vs id = k) (hr : ¬ Rt e) :
    Calls Tryz.prog 42 #[.pointer (some ⟨pb, 0, none⟩), .int .i64 id, evV e] w fun r w' => r = .returned (.int .i64 1) ∧ Below w.heap.size w w' := by
  have hB1 : Below w.heap.size w (w.alloc (.cells (evC e).toArray 44)) := (Below.refl _ _).alloc (Nat.le_refl _) _
  have hrt := fun W => rright_any e W he
  have HE : Hid (EvAt (w.alloc (.cells (evC e).toArray 44)) w.heap.size e) := by unfold Hid evC; constructor <;> simp
  have hcon := rknown_any (h.below hB1) hl id
  rw [hk] at hcon
  have HR : Hid (¬ Rt e) := hr
  clear hr
  generalize Rt e = P at hrt HR
  obtain ⟨id0, item, kind, qty, price, ofI, day⟩ := e
  unfold evV at hrt ⊢
  simp only at hrt ⊢
  go_enter Tryz.func42, Tryz.ntmps42
  go_wp2_with fail
  refine hcon.mono ?_
  rintro r w1 ⟨rfl, hb⟩
  have H1 := (h.below hB1).below hb
  have E1 := HE.out.below hb
  have v0 := E1.c0
  have v1 := E1.c1
  have v2 := E1.c2
  have v3 := E1.c3
  have v4 := E1.c4
  have v5 := E1.c5
  have v6 := E1.c6
  simp only at v0 v1 v2 v3 v4 v5 v6
  clear hcon HE H1 h
  go_wp2_with fail
  refine (hrt _).mono ?_
  rintro r w2 ⟨⟨bv, rfl, hbv⟩, hb2⟩
  obtain rfl : bv = false := by
    cases bv with
    | false => rfl
    | true => exact absurd (hbv.1 rfl) HR.out
  clear hrt HR hbv
  go_wp2
  go_ret
  exact ⟨rfl, (hB1.trans (hb.mono (by simp))).trans (hb2.mono (by have := hb.size; simp at this; omega))⟩
set_option maxRecDepth 20000 in
set_option maxHeartbeats 4000000 in
theorem rcorr_full {B pb : Nat} {sv : Value} {b : Bk} {w : World} (h : RAt w B pb sv b) (hl : b.vs.length ≤ 1000000) (id : Int) (e : Ev) (he : EvW e) (k : Nat) (hk : kIx b.vs id = k) (hr : Rt e) (hf : 120 ≤ b.vs.length) :
    Calls Tryz.prog 42 #[.pointer (some ⟨pb, 0, none⟩), .int .i64 id, evV e] w fun r w' => r = .returned (.int .i64 12) ∧ Below w.heap.size w w' := by
  have hB1 : Below w.heap.size w (w.alloc (.cells (evC e).toArray 44)) := (Below.refl _ _).alloc (Nat.le_refl _) _
  have hrt := fun W => rright_any e W he
  have HE : Hid (EvAt (w.alloc (.cells (evC e).toArray 44)) w.heap.size e) := by unfold Hid evC; constructor <;> simp
  obtain ⟨ad, cap, rfl⟩ := own_len h.own
  have hcon := rknown_any (h.below hB1) hl id
  rw [hk] at hcon
  have HR : Hid (Rt e) := hr
  have hz : (120 : Int) ≤ (b.vs.length : Int) := by omega
  clear hr hf
  generalize Rt e = P at hrt HR
  obtain ⟨id0, item, kind, qty, price, ofI, day⟩ := e
  unfold evV at hrt ⊢
  simp only at hrt ⊢
  go_enter Tryz.func42, Tryz.ntmps42
  go_wp2_with fail
  refine hcon.mono ?_
  rintro r w1 ⟨rfl, hb⟩
  have H1 := (h.below hB1).below hb
  have E1 := HE.out.below hb
  have v0 := E1.c0
  have v1 := E1.c1
  have v2 := E1.c2
  have v3 := E1.c3
  have v4 := E1.c4
  have v5 := E1.c5
  have v6 := E1.c6
  simp only at v0 v1 v2 v3 v4 v5 v6
  clear hcon HE h
  go_wp2_with fail
  refine (hrt _).mono ?_
  rintro r w2 ⟨⟨bv, rfl, hbv⟩, hb2⟩
  obtain rfl : bv = true := hbv.2 HR.out
  have c0 := (H1.below hb2).c0
  clear hrt HR hbv H1 E1 v0 v1 v2 v3 v4 v5 v6 hl hk
  go_wp2
  go_ret
  exact ⟨rfl, (hB1.trans (hb.mono (by simp))).trans (hb2.mono (by have := hb.size; simp at this; omega))⟩
set_option maxRecDepth 20000 in
set_option maxHeartbeats 4000000 in
theorem rcorr_yes {B pb g cap : Nat} {b : Bk} {w : World} (h : RAt w B pb (.slice (some ⟨g, 0, none⟩) b.vs.length cap) b) (h0 : 0 ≤ b.n) (h1 : b.n ≤ 1000000) (id : Int) (e : Ev) (he : EvW e) (k : Nat) (hkl : k < b.vs.length) (hk : kIx b.vs id = k) (hr : Rt e) (hlen : b.vs.length < 120) :
    Calls Tryz.prog 42 #[.pointer (some ⟨pb, 0, none⟩), .int .i64 id, evV e] w fun r w' => r = .returned (.int .i64 0) ∧ ∃ sv', RAt w' B pb sv' (corrB b k id e) ∧ Turned w w' pb (.slice (some ⟨g, 0, none⟩) b.vs.length cap) ∧ Fresh w (.slice (some ⟨g, 0, none⟩) b.vs.length cap) sv' := by
  obtain ⟨i0, hi, hz0, hz1, hz2⟩ := info_parts Tryz.infoRv
  have hl : b.vs.length ≤ 1000000 := by omega
  have hB1 : Below w.heap.size w (w.alloc (.cells (evC e).toArray 44)) := (Below.refl _ _).alloc (Nat.le_refl _) _
  have hrt := fun W => rright_any e W he
  have HE : Hid (EvAt (w.alloc (.cells (evC e).toArray 44)) w.heap.size e) := by unfold Hid evC; constructor <;> simp
  have hcon := rknown_any (h.below hB1) hl id
  rw [hk] at hcon
  have HR : Hid (Rt e) := hr
  have hz : ¬ (120 : Int) ≤ (b.vs.length : Int) := by omega
  clear hr
  generalize Rt e = P at hrt HR
  have HP : Hid (corrB b k id e = { (⟨setTo b.vs k (b.n + 1), b.n + 1, b.g⟩ : Bk) with vs := setTo b.vs k (b.n + 1) ++ [⟨{ e with id := id }, b.n + 1, 0⟩] }) := rfl
  rw [HP.out]
  clear HP
  have HLL : Hid ((setTo b.vs k (b.n + 1)).length < 120) := by unfold Hid; rw [setTo_len]; exact hlen
  obtain ⟨id0, item, kind, qty, price, ofI, day⟩ := e
  unfold evV at hrt ⊢
  simp only at hrt ⊢
  go_enter Tryz.func42, Tryz.ntmps42
  go_wp2_with fail
  refine hcon.mono ?_
  rintro r w1 ⟨rfl, hb⟩
  have H1 := (h.below hB1).below hb
  have E1 := HE.out.below hb
  have v0 := E1.c0
  have v1 := E1.c1
  have v2 := E1.c2
  have v3 := E1.c3
  have v4 := E1.c4
  have v5 := E1.c5
  have v6 := E1.c6
  simp only at v0 v1 v2 v3 v4 v5 v6
  have T1 : Turned w w1 pb (.slice (some ⟨g, 0, none⟩) b.vs.length cap) := .of_below (hB1.trans (hb.mono (by simp)))
  have hl1 : w.heap.size < w1.heap.size := by have := hb.size; simp at this; omega
  have e0f1 : w1.frozen? ⟨w.heap.size, 0, none⟩ = false := by
    rw [hb.frozen (p := ⟨w.heap.size, 0, none⟩) (by simp)]; simp
  clear hcon HE
  go_wp2_with fail
  refine (hrt _).mono ?_
  rintro r w2 ⟨⟨bv, rfl, hbv⟩, hb2⟩
  obtain rfl : bv = true := hbv.2 HR.out
  have H2 := H1.below hb2
  have E2 := E1.below hb2
  have T2 := T1.trans (.of_below hb2) (Fresh.refl _ _)
  have c0 := H2.c0
  have c1 := H2.c1
  have f1 := H2.f1
  have e0 := E2.c0
  have e0f : w2.frozen? ⟨w.heap.size, 0, none⟩ = false := (hb2.frozen (p := ⟨w.heap.size, 0, none⟩) hl1).trans e0f1
  have hpl : pb ≠ w.heap.size := by have := h.lt; omega
  have hpl2 : w.heap.size ≠ pb := fun e => hpl e.symm
  have hgl : g ≠ w.heap.size := by have := (h.block g rfl).2; omega
  have hkz : (k : Int) < (b.vs.length : Int) := by omega
  clear hrt HR hbv H1 E1 T1 v0 v1 v2 v3 v4 v5 v6 e0f1 hk
  go_wp2_with fail
  refine wp_region_turn [(.pure, 0), (.pure, 1), (.pure, 2), (.read, 3), (.pure, 4), (.pure, 5), (.pure, 6), (.pure, 7), (.read, 8), (.pure, 9), (.pure, 10), (.turn, 11)] (by kernel_rfl) (by kernel_rfl) ?_
  obtain ⟨W1, hW⟩ : ∃ W, W = ((w2.setCell ⟨pb, 1, none⟩ (.int .i64 (b.n + 1))).setCell ⟨w.heap.size, 0, none⟩ (.int .i64 id)).drew := ⟨_, rfl⟩
  rw [← hW]
  have H3 : RAt W1 B pb (.slice (some ⟨g, 0, none⟩) b.vs.length cap) ⟨b.vs, b.n + 1, b.g⟩ := by
    rw [hW]; exact (RAt.other (H2.put1 (b.n + 1)) hpl2 (fun e => by have := (h.block _ e).2; omega) _ _).below (below_drew _)
  have T2b : Turned w W1 pb (.slice (some ⟨g, 0, none⟩) b.vs.length cap) := by
    rw [hW]; exact turned_new (T2.trans (turned_set _ _ _ _ _) (Fresh.refl _ _)) (Nat.le_refl _) _ _
  have E3 : EvAt W1 w.heap.size ⟨id, item, kind, qty, price, ofI, day⟩ := by
    rw [hW]; exact ((E2.set ⟨pb, 1, none⟩ _ hpl).id_set id).below (below_drew _)
  clear hW c0 c1 f1 e0 e0f H2 E2 T2 hB1 hb hb2
  have hcell := own_cell vrC_len H3.own k 8 hkl (by decide)
  have r8 := hcell.1
  have rf := hcell.2
  simp only [vrC, List.getElem?_cons_zero, List.getElem?_cons_succ] at r8
  clear hcell
  have hU := up_ne
  have hA := anyW_ne
  have g0 := fun n : Up W1 => n.cell H3.c0
  have g1 := fun n : Up W1 => n.cell H3.c1
  simp only at g0 g1
  repeat (first | refine turn_p rfl ?_ | refine turn_q rfl ?_); go_big_quiet_step (fail); refine wpQuiet_nil ?_
  refine turn_t rfl ?_
  go_wp2_with fail
  refine ⟨rfl, ?_⟩
  refine turn_nil ?_
  have H4 := RAt.row (b := ⟨b.vs, b.n + 1, b.g⟩) H3 k hkl (b.n + 1)
  have T4 := T2b.trans (turned_row W1 g (k * 9 + 8) pb (.slice (some ⟨g, 0, none⟩) b.vs.length cap) (.int .i64 (b.n + 1)) rfl) (Fresh.refl _ _)
  have E4 := E3.set ⟨g, k * 9 + 8, none⟩ (.int .i64 (b.n + 1)) hgl
  simp only at H4
  clear g0 g1 r8 rf hU hA
  obtain ⟨W2, hW2⟩ : ∃ W, W = W1.setCell ⟨g, k * 9 + 8, none⟩ (.int .i64 (b.n + 1)) := ⟨_, rfl⟩
  rw [← hW2] at H4 T4 E4 ⊢
  clear hW2 H3 T2b E3
  go_wp2_with fail
  refine wp_region_turn [(.pure, 0), (.pure, 1), (.pure, 2), (.pure, 3), (.read, 4), (.read, 5), (.pure, 6), (.pure, 7), (.pure, 8), (.read, 9), (.pure, 10), (.make, 11), (.turn, 12), (.pure, 13), (.pure, 14), (.turn, 15)] (by kernel_rfl) (by kernel_rfl) ?_
  obtain ⟨W0, hW⟩ : ∃ W, W = W2.drew := ⟨_, rfl⟩
  rw [← hW]
  have HB : RAt W0 B pb (.slice (some ⟨g, 0, none⟩) b.vs.length cap) ⟨setTo b.vs k (b.n + 1), b.n + 1, b.g⟩ := by
    rw [hW]; exact H4.below (below_drew _)
  have T3 : Turned w W0 pb (.slice (some ⟨g, 0, none⟩) b.vs.length cap) := by
    rw [hW]; exact T4.trans (Turned.of_below (below_drew _)) (Fresh.refl _ _)
  have hE : EvAt W0 w.heap.size ⟨id, item, kind, qty, price, ofI, day⟩ := by
    rw [hW]; exact E4.below (below_drew _)
  clear hW H4 T4 E4
  have hU := up_ne
  have hA := anyW_ne
  have f0 := fun n : Up W0 => (hE.up n).c0
  have f1 := fun n : Up W0 => (hE.up n).c1
  have f2 := fun n : Up W0 => (hE.up n).c2
  have f3 := fun n : Up W0 => (hE.up n).c3
  have f4 := fun n : Up W0 => (hE.up n).c4
  have f5 := fun n : Up W0 => (hE.up n).c5
  have f6 := fun n : Up W0 => (hE.up n).c6
  have g0 := fun n : Up W0 => n.cell HB.c0
  have g1 := fun n : Up W0 => n.cell HB.c1
  simp only at f0 f1 f2 f3 f4 f5 f6 g0 g1
  repeat (first | refine turn_p rfl ?_ | refine turn_q rfl ?_); go_big_quiet_step (fail); refine wpQuiet_nil ?_
  refine turn_n rfl ?_
  go_wp2_with fail
  refine ⟨rfl, (Below.refl _ _).alloc (Nat.le_refl _) _, ?_⟩
  clear f0 f1 f2 f3 f4 f5 f6 g0 g1
  refine turn_t rfl ?_
  refine wpList_append_new _ rfl _ _ 32 rfl B 143 i0 vrZ 9 80 Tryz.underlying32 hi hz0 hz1 hz2 rfl (by decide) (.slice (some ⟨g, 0, none⟩) b.vs.length cap) _ _ rfl (HB.own.alloc _) ⟨W0.heap.size, 0, none⟩ 1 1 (vrC ⟨⟨id, item, kind, qty, price, ofI, day⟩, (b.n + 1), 0⟩) rfl rfl ?d1 ?d2 ?d3 ?d4 ?d5 (by decide) ?_
  case d1 => exact cells_of_list rfl
  case d2 => exact vrC_one _
  case d3 => have := HLL.out; simp only [maxLen]; omega
  case d4 => have := HLL.out; simp only; omega
  case d5 => have := HB.ge; have := HB.lt; simp; omega
  intro v' w2 hown2 hgr hfr
  obtain ⟨W1, hW1⟩ : ∃ W, W = W0.alloc (.cells (vrC ⟨⟨id, item, kind, qty, price, ofI, day⟩, (b.n + 1), 0⟩).toArray 143) := ⟨_, rfl⟩
  have hB1 : Below W0.heap.size W0 W1 := by rw [hW1]; exact (Below.refl _ _).alloc (Nat.le_refl _) _
  have HB1 := HB.below hB1
  have E1 := hE.below hB1
  have hgr' : W1.grownBy w2 (Value.ownBlock (.slice (some ⟨g, 0, none⟩) b.vs.length cap)) := by rw [hW1]; exact hgr
  have e2 : w2.heap[pb]? = W1.heap[pb]? := hgr'.block pb HB1.lt (fun e => HB.ne e.symm)
  have k0 : w2.cell? ⟨pb, 0, none⟩ = some (.slice (some ⟨g, 0, none⟩) b.vs.length cap) := (World.cell?_of_block (a := ⟨pb, 0, none⟩) e2).trans HB1.c0
  have k1 : w2.cell? ⟨pb, 1, none⟩ = some (.int .i64 (b.n + 1)) := (World.cell?_of_block (a := ⟨pb, 1, none⟩) e2).trans HB1.c1
  have k2 : w2.cell? ⟨pb, 2, none⟩ = some (.int .i64 b.g) := (World.cell?_of_block (a := ⟨pb, 2, none⟩) e2).trans HB1.c2
  have z0 : w2.frozen? ⟨pb, 0, none⟩ = false := (World.frozen?_of_block (a := ⟨pb, 0, none⟩) e2).trans HB1.f0
  have z1 : w2.frozen? ⟨pb, 1, none⟩ = false := (World.frozen?_of_block (a := ⟨pb, 1, none⟩) e2).trans HB1.f1
  have z2 : w2.frozen? ⟨pb, 2, none⟩ = false := (World.frozen?_of_block (a := ⟨pb, 2, none⟩) e2).trans HB1.f2
  have HO : Hid (w2.ownsRow B 143 9 v' ((setTo b.vs k (b.n + 1)).length + 1) ((setTo b.vs k (b.n + 1)).flatMap vrC ++ vrC ⟨⟨id, item, kind, qty, price, ofI, day⟩, (b.n + 1), 0⟩)) := hown2
  have hg2 : W1.heap.size ≤ w2.heap.size := hgr'.size
  have hfv : Fresh W0 (.slice (some ⟨g, 0, none⟩) b.vs.length cap) v' := hfr.grow (by simp)
  have hbx : w2.heap[w.heap.size]? = W1.heap[w.heap.size]? := hgr'.block w.heap.size (World.block_lt_of_cell? _ _ E1.c0) (fun e => by have := (h.block _ e.symm).2; omega)
  have x0 : w2.cell? ⟨w.heap.size, 0, none⟩ = some (.int .i64 id) := (World.cell?_of_block (a := ⟨w.heap.size, 0, none⟩) hbx).trans E1.c0
  clear hown2 hgr hfr hW1
  obtain ⟨g2, cap2, hv2, hg2B, hg2l, _⟩ : ∃ g cap, v' = .slice (some ⟨g, 0, none⟩) ((setTo b.vs k (b.n + 1)).length + 1) cap ∧ B ≤ g ∧ g < w2.heap.size ∧ True := by
    rcases own_form HO.out with ⟨_, hn, _⟩ | ⟨g, cap, hv, h1, h2, _⟩
    · omega
    · exact ⟨g, cap, hv, h1, h2, trivial⟩
  subst hv2
  have hne : Value.ownBlock (.slice (some ⟨g2, 0, none⟩) ((setTo b.vs k (b.n + 1)).length + 1) cap2) ≠ some pb := fun e => by
    rcases hfv pb e with h1 | h1
    · exact HB.ne h1
    · have := HB.lt; omega
  have hfin := RAt.put0 (b := ⟨setTo b.vs k (b.n + 1), b.n + 1, b.g⟩) (vs := (setTo b.vs k (b.n + 1)) ++ [⟨⟨id, item, kind, qty, price, ofI, day⟩, (b.n + 1), 0⟩]) k0 k1 k2 z0 z1 z2 (by simpa using HO.out) hne HB.ge
  have HFIN : Hid _ := hfin
  have htur : Turned w (w2.setCell ⟨pb, 0, none⟩ (.slice (some ⟨g2, 0, none⟩) ((setTo b.vs k (b.n + 1)).length + 1) cap2)) pb (.slice (some ⟨g, 0, none⟩) b.vs.length cap) :=
    (T3.trans ((Turned.of_below hB1).trans (grown_turned hgr') (Fresh.refl _ _)) (Fresh.refl _ _)).trans (turned_set _ _ _ _ _) (Fresh.refl _ _)
  have hfw : Fresh w (.slice (some ⟨g, 0, none⟩) b.vs.length cap) (.slice (some ⟨g2, 0, none⟩) ((setTo b.vs k (b.n + 1)).length + 1) cap2) := hfv.grow T3.size
  have HTUR : Hid _ := htur
  have HFW : Hid _ := hfw
  clear hfin htur hfw
  go_wp2_with fail
  refine ⟨rfl, ?_⟩
  repeat (first | refine turn_p rfl ?_ | refine turn_q rfl ?_); go_big_quiet_step (fail); refine wpQuiet_nil ?_
  refine turn_t rfl ?_
  go_wp2_with fail
  refine ⟨rfl, ?_⟩
  refine turn_nil ?_
  have hpw : (⟨pb, 0, none⟩ : Addr) ≠ ⟨w.heap.size, 0, none⟩ := fun e => by injection e with e; have := h.lt; omega
  have x1 : (w2.setCell ⟨pb, 0, none⟩ (.slice (some ⟨g2, 0, none⟩) ((setTo b.vs k (b.n + 1)).length + 1) cap2)).cell? ⟨w.heap.size, 0, none⟩ = some (.int .i64 id) := (set_other hpw).trans x0
  clear x0 k0 k1 k2 z0 z1 z2 hpw
  go_wp2
  go_ret
  exact ⟨rfl, _, HFIN.out, HTUR.out, HFW.out⟩
end Go.Proofs.YtcfgacdcgljbaaaGreatDoor
