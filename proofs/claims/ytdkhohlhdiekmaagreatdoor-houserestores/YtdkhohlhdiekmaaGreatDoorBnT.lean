/- The walks of (*period.Periods).covers, unposted, Open, Late. The walks of (*period.Periods).unposted, Open, Late. -/
import Derived.Test.YtdkhohlhdiekmaaGreatDoorPerUntil
import Derived.Test.YtdkhohlhdiekmaaGreatDoorBnQ
import Derived.Test.YtdkhohlhdiekmaaGreatDoorBnS
namespace Go.Proofs.YtdkhohlhdiekmaaGreatDoor
open Go.RowKit Go.Maps
/-- Closes in memory. -/
structure PerAt (w : World) (B pp : Nat) (cv : Value) (cs : List Cl) : Prop where
  c0 : w.cell? ⟨pp, 3, none⟩ = some cv
  f0 : w.frozen? ⟨pp, 3, none⟩ = false
  own : w.ownsRow B 98 7 cv cs.length (cs.flatMap clC)
  ne : cv.ownBlock ≠ some pp
  ge : B ≤ pp
theorem PerAt.lt {w : World} {B pp : Nat} {cv : Value} {cs : List Cl} (h : PerAt w B pp cv cs) : pp < w.heap.size := World.block_lt_of_cell? _ _ h.c0
theorem PerAt.below {w w' : World} {B pp : Nat} {cv : Value} {cs : List Cl} (h : PerAt w B pp cv cs) (hb : Below w.heap.size w w') : PerAt w' B pp cv cs :=
  ⟨below_cell hb h.c0, (hb.frozen (p := ⟨pp, 3, none⟩) h.lt).trans h.f0, own_below h.own hb (Nat.le_refl _), h.ne, h.ge⟩
/-- Another thing has turned. -/
theorem PerAt.turned {w w' : World} {B pp pb : Nat} {cv sv : Value} {cs : List Cl} (h : PerAt w B pp cv cs) (t : Turned w w' pb sv) (h1 : pp ≠ pb) (h2 : sv.ownBlock ≠ some pp) (h3 : cv.ownBlock ≠ some pb) (h4 : ∀ g, cv.ownBlock = some g → sv.ownBlock ≠ some g) : PerAt w' B pp cv cs := by
  have e := t.block pp h.lt h1 h2
  exact ⟨(World.cell?_of_block (a := ⟨pp, 3, none⟩) e).trans h.c0, (World.frozen?_of_block (a := ⟨pp, 3, none⟩) e).trans h.f0, row_same h.own fun k hk => t.block k ((h.own.lt k hk).2) (fun x => h3 (x ▸ hk)) (h4 k hk), h.ne, h.ge⟩
/-- Whether a month is closed. -/
def cov (cs : List Cl) (m : Int) : Bool := match cs.getLast? with
  | none => false
  | some c => decide (m ≤ c.month)
theorem cov_snoc (a : List Cl) (c : Cl) (m : Int) : cov (a ++ [c]) m = decide (m ≤ c.month) := by unfold cov; simp
theorem drew_same (w : World) (j : Nat) : Below w.heap.size w (w.drewN j) := ⟨rfl, rfl, rfl, Nat.le_refl _, fun _ _ => rfl⟩
set_option maxHeartbeats 4000000 in
theorem covers_any {w : World} {B pp : Nat} {cv : Value} {cs : List Cl} (h : PerAt w B pp cv cs) (hl : cs.length ≤ 1000) (m : Int) :
    Calls Tryz.prog 153 #[.pointer (some ⟨pp, 3, none⟩), .int .i64 m] w fun r w' => r = .returned (.bool (cov cs m)) ∧ ∃ j, w' = w.drewN j := by
  rcases List.eq_nil_or_concat cs with hcs | ⟨a, c, hcs⟩
  · subst hcs
    obtain ⟨ad, cap, hcv⟩ := own_lenN h.own
    have q0 : ∀ j, (w.drewN j).cell? ⟨pp, 3, none⟩ = some (.slice ad 0 cap) := fun j => by have e : cv = .slice ad 0 cap := hcv; rw [← e]; exact h.c0
    have mixed := csP.mixed
    clear h
    go_enter Tryz.func153, Tryz.ntmps153
    go_wp2_with fail
    go_quiet (fail)
    go_wp2
    go_ret
    exact ⟨rfl, _, rfl⟩
  · rw [List.concat_eq_append] at hcs
    subst hcs
    rw [cov_snoc]
    rcases own_form h.own with ⟨_, z2, _⟩ | ⟨g, cap, hcv, _⟩
    · rw [List.length_append] at z2; exact absurd z2 (by simp)
    · subst hcv
      have hm := (own_cell clC_len h.own a.length 0 (by simp) (by decide)).1
      simp only [Nat.add_zero, List.getElem_append_right (Nat.le_refl _), Nat.sub_self, List.getElem_cons_zero, clC, List.getElem?_cons_zero] at hm
      have hc0 := h.c0
      simp only [List.length_append, List.length_cons, List.length_nil, Nat.zero_add] at hc0 hl
      have q0 : ∀ j, (w.drewN j).cell? ⟨pp, 3, none⟩ = some (.slice (some ⟨g, 0, none⟩) (a.length + 1) cap) := fun j => hc0
      have q1 : ∀ j, (w.drewN j).cell? ⟨g, a.length * 7, none⟩ = some (.int .i64 c.month) := fun j => hm
      have mixed := csP.mixed
      have hpos : (0 : Int) < (a.length : Int) + 1 := by omega
      clear h hm hc0
      by_cases hc : m ≤ c.month
      · rw [decide_eq_true hc]
        go_enter Tryz.func153, Tryz.ntmps153
        go_wp2_with fail
        go_quiet (fail)
        go_wp2
        go_ret
        exact ⟨rfl, _, rfl⟩
      · rw [decide_eq_false hc]
        go_enter Tryz.func153, Tryz.ntmps153
        go_wp2_with fail
        go_quiet (fail)
        go_wp2
        go_ret
        refine ⟨?_, _, rfl⟩
        simp [hc]
theorem orEmpty_any (a : Addr) (w : World) : Calls Tryz.prog 82 #[.pointer (some a)] w fun r w' => r = .returned (.pointer (some a)) ∧ w' = w := by
  go_enter Tryz.func82, Tryz.ntmps82
  go_wp2
  go_ret
  exact ⟨rfl, rfl⟩
end Go.Proofs.YtdkhohlhdiekmaaGreatDoor
namespace Go.Proofs.YtdkhohlhdiekmaaGreatDoor
open Go.RowKit Go.Maps
theorem now_ok {b : Bk} (h : Inv b) : ((srt (asOf b b.n)).map (·.id)).Nodup ∧ (∀ e ∈ srt (asOf b b.n), EvW e) ∧ (srt (asOf b b.n)).length ≤ 10000 := by
  refine ⟨now_nodup h, fun e he => (now_mem h e he).2.1, ?_⟩
  rw [srt_len]
  unfold asOf
  rw [List.length_map]
  have h1 := List.length_filter_le (isAt b.n) b.vs
  have h2 := h.full
  omega
set_option maxRecDepth 20000 in
set_option maxHeartbeats 8000000 in
theorem unposted_any {w : World} {B pp Bb pb : Nat} {cv sv : Value} {cs : List Cl} {b : Bk} (hp : PerAt w B pp cv cs) (hbk : BookAt w Bb pb sv b) (hi : Inv b) (ht : LenTab w) (hl : cs.length ≤ 1000) (m : Int) :
    Calls Tryz.prog 81 #[.pointer (some ⟨pp, 3, none⟩), .pointer (some ⟨pb, 0, none⟩), .int .i64 m] w fun r w' => r = .returned (figV (unp (untl (srt (asOf b b.n)) m) cs)) ∧ Below w.heap.size w w' := by
  obtain ⟨W0, hW0⟩ : ∃ W, W = w.alloc (.cells #[.int .i64 0, .int .i64 0, .int .i64 0, .int .i64 0, .int .i64 0] 38) := ⟨_, rfl⟩
  have hb0 : Below w.heap.size w W0 := by rw [hW0]; exact (Below.refl _ _).alloc (Nat.le_refl _) _
  have hs0 : w.heap.size < W0.heap.size := by rw [hW0]; simp
  have hR0 : FigAt W0 w.heap.size fig0 := by rw [hW0]; exact fig_new w
  have has := as_any (hbk.below hb0) (by have := hi.full; omega) (-1)
  rw [show tOf b (-1) = b.n from if_pos (by decide)] at has
  obtain ⟨hnd, hew, hln⟩ := now_ok hi
  obtain ⟨es, hes⟩ : ∃ es, es = srt (asOf b b.n) := ⟨_, rfl⟩
  rw [← hes] at has hnd hew hln
  rw [← hes]
  obtain ⟨U, hU⟩ : ∃ U, U = untl es m := ⟨_, rfl⟩
  rw [← hU]
  obtain ⟨X, hX⟩ : ∃ X, X = unp U cs := ⟨_, rfl⟩
  rw [← hX]
  have HX : Hid (X = unp U cs) := hX
  have HU : Hid (U = untl es m) := hU
  have HES : Hid ((es.map (·.id)).Nodup ∧ (∀ e ∈ es, EvW e)) := ⟨hnd, hew⟩
  have HP : Hid (PerAt w B pp cv cs) := hp
  have HT : Hid (LenTab w) := ht
  have HW0 : Hid (W0 = _) := hW0
  obtain ⟨X1, X2, X3, X4, X5⟩ := X
  clear hes hU hX hnd hew hbk hi hp ht hW0
  go_enter Tryz.func81, Tryz.ntmps81
  go_wp2_with fail
  rw [← HW0.out]
  refine has.mono ?_
  rintro r w1 ⟨v, rfl, hown1, hb1⟩
  have hun := until_any es v m w1 (EvsAt.of_own hown1) HES.out.2 hln HES.out.1 ((HT.out.below hb0).below hb1)
  rw [← HU.out] at hun
  obtain ⟨av, capv, hv⟩ := own_lenN hown1
  subst hv
  have hR1 := hR0.below hb1
  clear has hown1 HW0 hR0
  go_wp2_with fail
  refine hun.mono ?_
  rintro r w2 ⟨rfl, hb2⟩
  have hR2 := hR1.below hb2
  have hB2 : Below w.heap.size w w2 := (hb0.trans (hb1.mono hb0.size)).trans (hb2.mono (Nat.le_trans hb0.size hb1.size))
  have hs2 : w.heap.size < w2.heap.size := Nat.lt_of_lt_of_le hs0 (Nat.le_trans hb1.size hb2.size)
  clear hun hR1 HU
  obtain ⟨u1, u2, u3, u4, u5⟩ := U
  unfold figV
  simp only
  obtain ⟨W3, hW3⟩ : ∃ W, W = w2.alloc (.cells #[.int .i64 u1, .int .i64 u2, .int .i64 u3, .int .i64 u4, .int .i64 u5] 38) := ⟨_, rfl⟩
  have hb3 : Below w2.heap.size w2 W3 := by rw [hW3]; exact (Below.refl _ _).alloc (Nat.le_refl _) _
  have HF3 : Hid (FigAt W3 w2.heap.size ⟨u1, u2, u3, u4, u5⟩) := by rw [hW3]; constructor <;> simp
  have HR3 : Hid (FigAt W3 w.heap.size fig0) := hR2.below hb3
  have hB3 : Below w.heap.size w W3 := hB2.trans (hb3.mono hB2.size)
  have HP3 : Hid (PerAt W3 B pp cv cs) := HP.out.below hB3
  have hs3 : w2.heap.size < W3.heap.size := by rw [hW3]; simp
  have hpl : pp < w.heap.size := HP.out.lt
  obtain ⟨ad, cap, hcv⟩ := own_lenN HP3.out.own
  have hpc := HP3.out.c0
  have HPL : Hid (∀ g, cv.ownBlock = some g → g < w.heap.size) := fun g hg => (HP.out.own.lt g hg).2
  subst hcv
  have HW3 : Hid (W3 = _) := hW3
  rw [hW3] at hpc
  clear hR2 hW3 hb3
  go_wp2_with fail
  rw [← HW3.out]
  clear hpc
  go_loopw [19] (fun i wr => ∃ k : Nat, k ≤ cs.length ∧ i = .int .i64 k ∧ Hid (FigAt wr w2.heap.size (unp ⟨u1, u2, u3, u4, u5⟩ (cs.take k))) ∧ Hid (Turned W3 wr w2.heap.size nilS)) (fun i _ => cs.length - (intOf i).toNat)
  case atStart => exact ⟨0, Nat.zero_le _, rfl, HF3, Turned.refl _ _ _⟩
  case round =>
    obtain ⟨k, hk, rfl, HF, HTU⟩ := hrel
    by_cases hlt : k < cs.length
    · rcases own_form HP3.out.own with ⟨_, a2, _⟩ | ⟨g, cp, e1, hg1, hg2, _⟩
      · omega
      · simp only [Value.slice.injEq] at e1
        obtain ⟨rfl, _, rfl⟩ := e1
        obtain ⟨x, hx⟩ : ∃ x, x = cs[k] := ⟨_, rfl⟩
        have HTK : Hid (unp ⟨u1, u2, u3, u4, u5⟩ (cs.take (k + 1)) = (unp ⟨u1, u2, u3, u4, u5⟩ (cs.take k)).minus x.posted) := by
          show _ = _
          rw [List.take_succ_eq_append_getElem hlt, unp_append, hx]
          rfl
        have hgw : g < w.heap.size := HPL.out g rfl
        have hbl : wr.heap[g]? = W3.heap[g]? := HTU.out.block g hg2 (by omega) (by simp [nilS, Value.ownBlock])
        have hcw : ∀ j, j < 7 → wr.cell? ⟨g, k * 7 + j, none⟩ = (clC x)[j]? := fun j hj => by
          rw [World.cell?_of_block (a := ⟨g, k * 7 + j, none⟩) hbl, (own_cell clC_len HP3.out.own k j hlt hj).1, hx]
        obtain ⟨xm, xt, x1, x2, x3, x4, x5⟩ := x
        have q0 := hcw 0 (by omega)
        have q1 := hcw 1 (by omega)
        have q2 := hcw 2 (by omega)
        have q3 := hcw 3 (by omega)
        have q4 := hcw 4 (by omega)
        have q5 := hcw 5 (by omega)
        have q6 := hcw 6 (by omega)
        simp only [clC, figC, List.getElem?_cons_zero, List.getElem?_cons_succ, Nat.add_zero] at q0 q1 q2 q3 q4 q5 q6
        simp only at HTK
        obtain ⟨f, hf⟩ : ∃ f, f = unp ⟨u1, u2, u3, u4, u5⟩ (cs.take k) := ⟨_, rfl⟩
        rw [← hf] at HF HTK
        clear hcw hx hf hbl
        obtain ⟨W4, hW4⟩ : ∃ W, W = wr.alloc (.cells #[.int .i64 xm, .int .i64 xt, .int .i64 x1, .int .i64 x2, .int .i64 x3, .int .i64 x4, .int .i64 x5] 98) := ⟨_, rfl⟩
        have hb4 : Below wr.heap.size wr W4 := by rw [hW4]; exact (Below.refl _ _).alloc (Nat.le_refl _) _
        have hF4 := HF.out.below hb4
        have hT4 := turned_below HTU.out hb4
        have hmi := minus_any f ⟨x1, x2, x3, x4, x5⟩ W4
        obtain ⟨R, hR⟩ : ∃ R, R = f.minus ⟨x1, x2, x3, x4, x5⟩ := ⟨_, rfl⟩
        rw [← hR] at hmi HTK
        have c0 := hF4.c0
        have c1 := hF4.c1
        have c2 := hF4.c2
        have c3 := hF4.c3
        have c4 := hF4.c4
        rw [hW4] at c0 c1 c2 c3 c4
        have HF4 : Hid (FigAt W4 w2.heap.size f) := hF4
        obtain ⟨f1, f2, f3, f4, f5⟩ := f
        obtain ⟨R1, R2, R3, R4, R5⟩ := R
        unfold figV at hmi
        simp only at hmi c0 c1 c2 c3 c4
        have HW4 : Hid (W4 = _) := hW4
        clear hF4 hW4 hR
        go_wp2_with fail
        rw [← HW4.out]
        refine hmi.mono ?_
        rintro r w5 ⟨rfl, hb5⟩
        have hF5 := HF4.out.below hb5
        have d0 := hF5.c0
        have d1 := hF5.c1
        have d2 := hF5.c2
        have d3 := hF5.c3
        have d4 := hF5.c4
        have e0 := hF5.z0
        have e1 := hF5.z1
        have e2 := hF5.z2
        have e3 := hF5.z3
        have e4 := hF5.z4
        simp only at d0 d1 d2 d3 d4
        have HF6 : Hid (FigAt (set5 w5 w2.heap.size ⟨R1, R2, R3, R4, R5⟩) w2.heap.size ⟨R1, R2, R3, R4, R5⟩) := hF5.put _
        have HT6 : Hid (Turned W3 (set5 w5 w2.heap.size ⟨R1, R2, R3, R4, R5⟩) w2.heap.size nilS) := (turned_below hT4 hb5).trans (turned_set5 _ _ _ _) (Fresh.refl _ _)
        clear hmi hF5 c0 c1 c2 c3 c4 q0 q1 q2 q3 q4 q5 q6 hT4
        go_wp2
        go_roundw
        case rel =>
          refine ⟨k + 1, by omega, by go_num, ?_, HT6⟩
          show FigAt _ _ _
          rw [HTK.out]
          exact HF6.out
        case measure => simp [intOf]; omega
    · obtain rfl : k = cs.length := by omega
      rw [List.take_length, ← HX.out] at HF
      have hR := HR3.out.same (HTU.out.block w.heap.size (by omega) (by omega) (by simp [nilS, Value.ownBlock]))
      have d0 := hR.c0
      have d1 := hR.c1
      have d2 := hR.c2
      have d3 := hR.c3
      have d4 := hR.c4
      have e0 := hR.z0
      have e1 := hR.z1
      have e2 := hR.z2
      have e3 := hR.z3
      have e4 := hR.z4
      have c0 := HF.out.c0
      have c1 := HF.out.c1
      have c2 := HF.out.c2
      have c3 := HF.out.c3
      have c4 := HF.out.c4
      have HG := (hR.put ⟨X1, X2, X3, X4, X5⟩)
      have hBF : Below w.heap.size w (set5 wr w.heap.size ⟨X1, X2, X3, X4, X5⟩) := by
        refine ⟨(set5_oth _ _ _).1.trans (HTU.out.os.trans hB3.os), (set5_oth _ _ _).2.1.trans (HTU.out.tape.trans hB3.tape), (set5_oth _ _ _).2.2.trans (HTU.out.output.trans hB3.output), ?_, fun j hj => ?_⟩
        · rw [set5_size]; have := HTU.out.size; omega
        · rw [set5_other _ _ _ (by omega), HTU.out.block j (by omega) (by omega) (by simp [nilS, Value.ownBlock])]
          exact hB3.block j hj
      have g0 := HG.c0
      have g1 := HG.c1
      have g2 := HG.c2
      have g3 := HG.c3
      have g4 := HG.c4
      unfold set5 at g0 g1 g2 g3 g4
      simp only [fig0] at d0 d1 d2 d3 d4
      simp only at c0 c1 c2 c3 c4 g0 g1 g2 g3 g4
      have HBF : Hid _ := hBF
      clear hR HG hBF
      go_wp2
      refine bodyPost_ret (v := .agg #[.int .i64 X1, .int .i64 X2, .int .i64 X3, .int .i64 X4, .int .i64 X5]) (by simp [results, Tryz.results81, go_sem, *]) rfl ⟨rfl, ?_⟩
      exact HBF.out
set_option maxHeartbeats 4000000 in
theorem open_any {w : World} {B pp Bb pb : Nat} {cv sv : Value} {cs : List Cl} {b : Bk} (hp : PerAt w B pp cv cs) (hbk : BookAt w Bb pb sv b) (hi : Inv b) (ht : LenTab w) (hl : cs.length ≤ 1000) :
    Calls Tryz.prog 42 #[.pointer (some ⟨pp, 3, none⟩), .pointer (some ⟨pb, 0, none⟩)] w fun r w' => r = .returned (figV (unp (untl (srt (asOf b b.n)) 3300) cs)) ∧ Below w.heap.size w w' := by
  obtain ⟨W0, hW0⟩ : ∃ W, W = w.alloc (.cells #[.int .i64 0, .int .i64 0, .int .i64 0, .int .i64 0, .int .i64 0] 38) := ⟨_, rfl⟩
  have hb0 : Below w.heap.size w W0 := by rw [hW0]; exact (Below.refl _ _).alloc (Nat.le_refl _) _
  have hs0 : w.heap.size < W0.heap.size := by rw [hW0]; simp
  have hR0 : FigAt W0 w.heap.size fig0 := by rw [hW0]; exact fig_new w
  have hor := orEmpty_any ⟨pb, 0, none⟩ W0
  have hun := unposted_any (hp.below hb0) (hbk.below hb0) hi (ht.below hb0) hl 3300
  obtain ⟨X, hX⟩ : ∃ X, X = unp (untl (srt (asOf b b.n)) 3300) cs := ⟨_, rfl⟩
  rw [← hX] at hun ⊢
  obtain ⟨X1, X2, X3, X4, X5⟩ := X
  have HW0 : Hid (W0 = _) := hW0
  clear hX hp hbk hi ht hW0
  go_enter Tryz.func42, Tryz.ntmps42
  go_wp2_with fail
  rw [← HW0.out]
  refine hor.mono ?_
  rintro r w1 ⟨rfl, hw1⟩
  subst w1
  go_wp2_with fail
  refine hun.mono ?_
  rintro r w2 ⟨rfl, hb2⟩
  have hR := hR0.below hb2
  have d0 := hR.c0
  have d1 := hR.c1
  have d2 := hR.c2
  have d3 := hR.c3
  have d4 := hR.c4
  have e0 := hR.z0
  have e1 := hR.z1
  have e2 := hR.z2
  have e3 := hR.z3
  have e4 := hR.z4
  have HG := (hR.put ⟨X1, X2, X3, X4, X5⟩)
  have hBF : Below w.heap.size w (set5 w2 w.heap.size ⟨X1, X2, X3, X4, X5⟩) := by
    have hB := hb0.trans (hb2.mono hb0.size)
    refine ⟨(set5_oth _ _ _).1.trans hB.os, (set5_oth _ _ _).2.1.trans hB.tape, (set5_oth _ _ _).2.2.trans hB.output, ?_, fun j hj => ?_⟩
    · rw [set5_size]; exact hB.size
    · rw [set5_other _ _ _ (by omega)]
      exact hB.block j hj
  have g0 := HG.c0
  have g1 := HG.c1
  have g2 := HG.c2
  have g3 := HG.c3
  have g4 := HG.c4
  unfold set5 at g0 g1 g2 g3 g4
  simp only [fig0] at d0 d1 d2 d3 d4
  simp only at g0 g1 g2 g3 g4
  have HBF : Hid _ := hBF
  unfold figV
  simp only
  clear hR HG hBF hR0 hor hun
  go_wp2
  refine bodyPost_ret (v := .agg #[.int .i64 X1, .int .i64 X2, .int .i64 X3, .int .i64 X4, .int .i64 X5]) (by simp [results, Tryz.results42, go_sem, *]) rfl ⟨rfl, ?_⟩
  exact HBF.out
set_option maxHeartbeats 4000000 in
theorem late_any {w : World} {B pp : Nat} {cv : Value} {cs : List Cl} (hp : PerAt w B pp cv cs) (ht : LenTab w) (hl : cs.length ≤ 1000) (n : Int) (h0 : 0 ≤ n) (h1 : n ≤ 99999) :
    Calls Tryz.prog 149 #[.pointer (some ⟨pp, 3, none⟩), .int .i64 n] w fun r w' => r = .returned (.bool (cov cs (dK n))) ∧ Below w.heap.size w w' := by
  have hmo := dmonth_ok n w ht h0 h1
  have hco := covers_any hp hl (dK n)
  obtain ⟨c, hc⟩ : ∃ c, c = cov cs (dK n) := ⟨_, rfl⟩
  rw [← hc] at hco ⊢
  clear hc
  obtain ⟨N, hN⟩ : ∃ N, N = dK n := ⟨_, rfl⟩
  rw [← hN] at hmo hco
  clear hN hp ht
  go_enter Tryz.func149, Tryz.ntmps149
  go_wp2_with fail
  refine hmo.mono ?_
  rintro r w1 ⟨rfl, hw1⟩
  subst w1
  go_wp2_with fail
  refine hco.mono ?_
  rintro r w2 ⟨rfl, j, hw2⟩
  subst w2
  go_wp2
  go_ret
  exact ⟨rfl, drew_same _ _⟩
end Go.Proofs.YtdkhohlhdiekmaaGreatDoor
