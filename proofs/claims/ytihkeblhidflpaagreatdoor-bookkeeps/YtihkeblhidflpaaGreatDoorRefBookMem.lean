/- The document's own book in memory; the walks of its known, History, As. (Written by gen_refbook.py.) -/
import Derived.Test.YtihkeblhidflpaaGreatDoorBookAct
import Derived.Test.YtihkeblhidflpaaGreatDoorRefOrdered
import Derived.Test.YtihkeblhidflpaaGreatDoorRefIn
namespace Go.Proofs.YtihkeblhidflpaaGreatDoor
open Go.RowKit
structure RAt (w : World) (B pb : Nat) (sv : Value) (b : Bk) : Prop where
  c0 : w.cell? ⟨pb, 0, none⟩ = some sv
  c1 : w.cell? ⟨pb, 1, none⟩ = some (.int .i64 b.n)
  c2 : w.cell? ⟨pb, 2, none⟩ = some (.int .i64 b.g)
  f0 : w.frozen? ⟨pb, 0, none⟩ = false
  f1 : w.frozen? ⟨pb, 1, none⟩ = false
  f2 : w.frozen? ⟨pb, 2, none⟩ = false
  own : w.ownsRow B 44 9 sv b.vs.length (b.vs.flatMap vrC)
  ne : sv.ownBlock ≠ some pb
  ge : B ≤ pb
theorem RAt.lt {w : World} {B pb : Nat} {sv : Value} {b : Bk} (h : RAt w B pb sv b) : pb < w.heap.size := World.block_lt_of_cell? _ _ h.c0
theorem RAt.below {w w' : World} {B pb : Nat} {sv : Value} {b : Bk} (h : RAt w B pb sv b) (hb : Below w.heap.size w w') : RAt w' B pb sv b :=
  ⟨below_cell hb h.c0, below_cell hb h.c1, below_cell hb h.c2, (hb.frozen (p := ⟨pb, 0, none⟩) h.lt).trans h.f0, (hb.frozen (p := ⟨pb, 1, none⟩) h.lt).trans h.f1, (hb.frozen (p := ⟨pb, 2, none⟩) h.lt).trans h.f2, own_below h.own hb (Nat.le_refl _), h.ne, h.ge⟩
theorem RAt.block {w : World} {B pb : Nat} {sv : Value} {b : Bk} (h : RAt w B pb sv b) : ∀ k, sv.ownBlock = some k → B ≤ k ∧ k < w.heap.size := h.own.lt
theorem Turned.rbelow {w0 w w' : World} {B pb : Nat} {sv : Value} {b : Bk} (h : Turned w w' pb sv) (ha : RAt w B pb sv b) (hb : Below B w0 w) (hB : B ≤ w.heap.size) : Below B w0 w' :=
  hb.trans ⟨h.os, h.tape, h.output, h.size, fun k hk => h.block k (by omega) (by have := ha.ge; omega) (fun e => by have := (ha.block k e).1; omega)⟩
theorem RAt.put0 {w : World} {B pb : Nat} {sv sv' : Value} {b : Bk} {vs : List Vr} (c0 : w.cell? ⟨pb, 0, none⟩ = some sv) (c1 : w.cell? ⟨pb, 1, none⟩ = some (.int .i64 b.n)) (c2 : w.cell? ⟨pb, 2, none⟩ = some (.int .i64 b.g))
    (f0 : w.frozen? ⟨pb, 0, none⟩ = false) (f1 : w.frozen? ⟨pb, 1, none⟩ = false) (f2 : w.frozen? ⟨pb, 2, none⟩ = false) (own : w.ownsRow B 44 9 sv' vs.length (vs.flatMap vrC)) (ne : sv'.ownBlock ≠ some pb) (ge : B ≤ pb) :
    RAt (w.setCell ⟨pb, 0, none⟩ sv') B pb sv' { b with vs := vs } :=
  ⟨set_same c0, (set_other (by simp)).trans c1, (set_other (by simp)).trans c2, set_frz.trans f0, set_frz.trans f1, set_frz.trans f2, ownsRow_setCell_other own ne _, ne, ge⟩
theorem RAt.put1 {w : World} {B pb : Nat} {sv : Value} {b : Bk} (h : RAt w B pb sv b) (n : Int) : RAt (w.setCell ⟨pb, 1, none⟩ (.int .i64 n)) B pb sv { b with n := n } :=
  ⟨(set_other (by simp)).trans h.c0, set_same h.c1, (set_other (by simp)).trans h.c2, set_frz.trans h.f0, set_frz.trans h.f1, set_frz.trans h.f2, ownsRow_setCell_other h.own h.ne _, h.ne, h.ge⟩
theorem RAt.put2 {w : World} {B pb : Nat} {sv : Value} {b : Bk} (h : RAt w B pb sv b) (n : Int) : RAt (w.setCell ⟨pb, 2, none⟩ (.int .i64 n)) B pb sv { b with g := n } :=
  ⟨(set_other (by simp)).trans h.c0, (set_other (by simp)).trans h.c1, set_same h.c2, set_frz.trans h.f0, set_frz.trans h.f1, set_frz.trans h.f2, ownsRow_setCell_other h.own h.ne _, h.ne, h.ge⟩
theorem RAt.row {w : World} {B pb g cap : Nat} {b : Bk} (h : RAt w B pb (.slice (some ⟨g, 0, none⟩) b.vs.length cap) b) (k : Nat) (hk : k < b.vs.length) (t : Int) :
    RAt (w.setCell ⟨g, k * 9 + 8, none⟩ (.int .i64 t)) B pb (.slice (some ⟨g, 0, none⟩) b.vs.length cap) ⟨setTo b.vs k t, b.n, b.g⟩ := by
  have hne : g ≠ pb := fun e => h.ne (by simp [Value.ownBlock, e])
  have e : ((setTo b.vs k t).flatMap vrC) = (b.vs.flatMap vrC).set (k * 9 + 8) (.int .i64 t) := by
    rw [setTo_is _ _ _ hk]
    exact flatMap_set vrC 9 vrC_len 8 _ (by decide) _ _ k hk rfl
  have c (o : Nat) : (⟨g, k * 9 + 8, none⟩ : Addr) ≠ ⟨pb, o, none⟩ := fun e => hne (by injection e)
  refine ⟨(set_other (c 0)).trans h.c0, (set_other (c 1)).trans h.c1, (set_other (c 2)).trans h.c2, set_frz.trans h.f0, set_frz.trans h.f1, set_frz.trans h.f2, ?_, h.ne, h.ge⟩
  show World.ownsRow _ _ _ _ _ (setTo b.vs k t).length ((setTo b.vs k t).flatMap vrC)
  rw [e, setTo_len]
  exact own_set h.own _ _
theorem RAt.some {w : World} {B pb : Nat} {sv : Value} {b : Bk} (h : RAt w B pb sv b) (hn : 0 < b.vs.length) : ∃ g cap, sv = .slice (some ⟨g, 0, none⟩) b.vs.length cap := by
  rcases own_form h.own with ⟨_, h0, _⟩ | ⟨g, cap, e, _⟩
  · omega
  · exact ⟨g, cap, e⟩
theorem Tryz.infoRv : (Tryz.prog.info? 44).map (fun i => (i.zero, i.size, i.bytes)) = some (some vrZ, 9, 80) := by kernel_rfl
theorem kIx_of {vs : List Vr} {id : Int} {k : Nat} (hk : k < vs.length) (h1 : isK id vs[k] = true) (h2 : ∀ j (hj : j < vs.length), j < k → isK id vs[j] = false) : kIx vs id = k := by
  rcases kIx_spec vs id with ⟨_, h⟩ | ⟨k', hk', h, h3, h4⟩
  · have := h vs[k] (List.getElem_mem hk)
    rw [h1] at this
    cases this
  · have : k' = k := by
      rcases Nat.lt_trichotomy k k' with x | x | x
      · have := h4 k hk x; rw [h1] at this; cases this
      · exact x.symm
      · have := h2 k' hk' x; rw [h3] at this; cases this
    rw [h, this]
theorem kIx_none {vs : List Vr} {id : Int} (h2 : ∀ j (hj : j < vs.length), isK id vs[j] = false) : kIx vs id = -1 := by
  rcases kIx_spec vs id with ⟨h, _⟩ | ⟨k', hk', h, h3, h4⟩
  · exact h
  · have := h2 k' hk'; rw [h3] at this; cases this
set_option maxRecDepth 20000 in
set_option maxHeartbeats 4000000 in
theorem rknown_any {B pb : Nat} {sv : Value} {b : Bk} {w : World} (h : RAt w B pb sv b) (hl : b.vs.length ≤ 1000000) (id : Int) :
    Calls Tryz.prog 32 #[.pointer (some ⟨pb, 0, none⟩), .int .i64 id] w fun e w' => e = .returned (.int .i64 (kIx b.vs id)) ∧ Below w.heap.size w w' := by
  have hc0 := h.c0
  have hown := h.own
  generalize b.vs = vs at hl hown
  clear h
  rcases own_form hown with ⟨hv, hn, _⟩ | ⟨g, cap, hv, _, hgl, _⟩
  · subst hv
    have e : vs = [] := List.length_eq_zero_iff.1 hn
    subst e
    have hk : kIx [] id = -1 := kIx_none fun j hj => absurd hj (Nat.not_lt_zero _)
    rw [hk]
    go_enter Tryz.func32, Tryz.ntmps32
    go_wp2
    refine wp_loop_rounds 1 ?_
    rw [rounds_succ]
    go_wp2
    go_ret
    exact ⟨rfl, Below.refl _ _⟩
  · subst hv
    have HO : Hid (w.ownsRow B 44 9 (.slice (some ⟨g, 0, none⟩) vs.length cap) vs.length (vs.flatMap vrC)) := hown
    clear hown
    obtain ⟨ix, hix⟩ : ∃ ix, ix = kIx vs id := ⟨_, rfl⟩
    have HI : Hid (ix = kIx vs id) := hix
    rw [← hix]
    clear hix
    go_enter Tryz.func32, Tryz.ntmps32
    go_wp2
    go_loopw [12] (fun i wr => ∃ k : Nat, k ≤ vs.length ∧ i = .int .i64 k ∧ Hid (∀ j (hj : j < vs.length), j < k → isK id vs[j] = false) ∧ Hid (Below w.heap.size w wr)) (fun i _ => vs.length - (intOf i).toNat)
    case atStart => exact ⟨0, Nat.zero_le _, rfl, fun j _ hj => absurd hj (Nat.not_lt_zero _), Below.refl _ _⟩
    case round =>
      obtain ⟨k, hk, rfl, HF, HB⟩ := hrel
      by_cases hlt : k < vs.length
      · obtain ⟨x, hx⟩ : ∃ x, x = vs[k] := ⟨_, rfl⟩
        have hcw : ∀ j, j < 9 → wr.cell? ⟨g, k * 9 + j, none⟩ = (vrC x)[j]? := fun j hj => by
          rw [HB.out.cell (p := ⟨g, k * 9 + j, none⟩) hgl, (own_cell vrC_len HO.out k j hlt hj).1, hx]
        have HX : Hid (x = vs[k]) := hx
        clear hx
        obtain ⟨⟨id2, item, kind, qty, price, ofI, day⟩, fr, tq⟩ := x
        have q0 := hcw 0 (by omega)
        have q1 := hcw 1 (by omega)
        have q2 := hcw 2 (by omega)
        have q3 := hcw 3 (by omega)
        have q4 := hcw 4 (by omega)
        have q5 := hcw 5 (by omega)
        have q6 := hcw 6 (by omega)
        have q7 := hcw 7 (by omega)
        have q8 := hcw 8 (by omega)
        simp only [vrC, List.getElem?_cons_zero, List.getElem?_cons_succ, Nat.add_zero] at q0 q1 q2 q3 q4 q5 q6 q7 q8
        clear hcw
        have hkz : (k : Int) < (vs.length : Int) := by omega
        have HB2 : ∀ o, Below w.heap.size w (wr.alloc o) := fun o => HB.out.alloc HB.out.size o
        by_cases h1 : id2 = id
        · by_cases h2 : tq = 0
          · subst h1 h2
            have hkk : kIx vs id2 = k := kIx_of hlt (by rw [← HX.out]; simp [isK]) HF.out
            have HKK : Hid (ix = (k : Int)) := HI.out.trans hkk
            clear hkk
            go_wp2
            go_ret
            refine ⟨by rw [HKK.out]; rfl, HB2 _⟩
          · subst h1
            have HF2 : Hid (∀ j (hj : j < vs.length), j < k + 1 → isK id2 vs[j] = false) := fun j hj hjk => by
              rcases Nat.lt_or_ge j k with y | y
              · exact HF.out j hj y
              · obtain rfl : j = k := by omega
                rw [← HX.out]; simp [isK, h2]
            have h2b : (tq == 0) = false := by simpa using h2
            go_wp2
            go_roundw
            case rel => exact ⟨k + 1, by omega, by go_num, HF2, HB2 _⟩
            case measure => simp [intOf]; omega
        · have HF2 : Hid (∀ j (hj : j < vs.length), j < k + 1 → isK id vs[j] = false) := fun j hj hjk => by
            rcases Nat.lt_or_ge j k with y | y
            · exact HF.out j hj y
            · obtain rfl : j = k := by omega
              rw [← HX.out]; simp [isK, h1]
          have h1b : (id2 == id) = false := by simpa using h1
          go_wp2
          go_roundw
          case rel => exact ⟨k + 1, by omega, by go_num, HF2, HB2 _⟩
          case measure => simp [intOf]; omega
      · have hkk : kIx vs id = -1 := kIx_none fun j hj => HF.out j hj (by omega)
        have HKK : Hid (ix = -1) := HI.out.trans hkk
        have hkz : ¬ (k : Int) < (vs.length : Int) := by omega
        clear hkk
        go_wp2
        go_ret
        exact ⟨by rw [HKK.out]; rfl, HB.out⟩
end Go.Proofs.YtihkeblhidflpaaGreatDoor
