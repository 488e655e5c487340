/- The walk of period.Until. -/
import Derived.Test.YtdkhohlhdiekmaaGreatDoorPerMonths
namespace Go.Proofs.YtdkhohlhdiekmaaGreatDoor
open Go.RowKit Go.Maps
/-- Figures in a block of their own. -/
structure FigAt (w : World) (b : Nat) (f : Fig) : Prop where
  c0 : w.cell? ⟨b, 0, none⟩ = some (.int .i64 f.inn)
  c1 : w.cell? ⟨b, 1, none⟩ = some (.int .i64 f.out)
  c2 : w.cell? ⟨b, 2, none⟩ = some (.int .i64 f.loss)
  c3 : w.cell? ⟨b, 3, none⟩ = some (.int .i64 f.gain)
  c4 : w.cell? ⟨b, 4, none⟩ = some (.int .i64 f.late)
  z0 : w.frozen? ⟨b, 0, none⟩ = false
  z1 : w.frozen? ⟨b, 1, none⟩ = false
  z2 : w.frozen? ⟨b, 2, none⟩ = false
  z3 : w.frozen? ⟨b, 3, none⟩ = false
  z4 : w.frozen? ⟨b, 4, none⟩ = false
theorem FigAt.lt {w : World} {b : Nat} {f : Fig} (h : FigAt w b f) : b < w.heap.size := World.block_lt_of_cell? _ _ h.c0
theorem FigAt.same {w w' : World} {b : Nat} {f : Fig} (h : FigAt w b f) (e : w'.heap[b]? = w.heap[b]?) : FigAt w' b f :=
  ⟨(World.cell?_of_block (a := ⟨b, 0, none⟩) e).trans h.c0, (World.cell?_of_block (a := ⟨b, 1, none⟩) e).trans h.c1, (World.cell?_of_block (a := ⟨b, 2, none⟩) e).trans h.c2, (World.cell?_of_block (a := ⟨b, 3, none⟩) e).trans h.c3, (World.cell?_of_block (a := ⟨b, 4, none⟩) e).trans h.c4,
   (World.frozen?_of_block (a := ⟨b, 0, none⟩) e).trans h.z0, (World.frozen?_of_block (a := ⟨b, 1, none⟩) e).trans h.z1, (World.frozen?_of_block (a := ⟨b, 2, none⟩) e).trans h.z2, (World.frozen?_of_block (a := ⟨b, 3, none⟩) e).trans h.z3, (World.frozen?_of_block (a := ⟨b, 4, none⟩) e).trans h.z4⟩
theorem FigAt.below {w w' : World} {b : Nat} {f : Fig} (h : FigAt w b f) (hb : Below w.heap.size w w') : FigAt w' b f := h.same (hb.block b h.lt)
def set5 (w : World) (b : Nat) (f : Fig) : World := ((((w.setCell ⟨b, 0, none⟩ (.int .i64 f.inn)).setCell ⟨b, 1, none⟩ (.int .i64 f.out)).setCell ⟨b, 2, none⟩ (.int .i64 f.loss)).setCell ⟨b, 3, none⟩ (.int .i64 f.gain)).setCell ⟨b, 4, none⟩ (.int .i64 f.late)
theorem ad_ne {b i j : Nat} (h : i ≠ j) : (⟨b, i, none⟩ : Addr) ≠ ⟨b, j, none⟩ := fun e => h (by injection e)
theorem FigAt.put {w : World} {b : Nat} {f : Fig} (h : FigAt w b f) (g : Fig) : FigAt (set5 w b g) b g := by
  unfold set5
  have s := @set_same
  refine ⟨?_, ?_, ?_, ?_, ?_, ?_, ?_, ?_, ?_, ?_⟩
  · rw [set_other (ad_ne (by decide)), set_other (ad_ne (by decide)), set_other (ad_ne (by decide)), set_other (ad_ne (by decide))]; exact set_same h.c0
  · rw [set_other (ad_ne (by decide)), set_other (ad_ne (by decide)), set_other (ad_ne (by decide))]; exact set_same ((set_other (ad_ne (by decide))).trans h.c1)
  · rw [set_other (ad_ne (by decide)), set_other (ad_ne (by decide))]; exact set_same ((set_other (ad_ne (by decide))).trans ((set_other (ad_ne (by decide))).trans h.c2))
  · rw [set_other (ad_ne (by decide))]; exact set_same ((set_other (ad_ne (by decide))).trans ((set_other (ad_ne (by decide))).trans ((set_other (ad_ne (by decide))).trans h.c3)))
  · exact set_same ((set_other (ad_ne (by decide))).trans ((set_other (ad_ne (by decide))).trans ((set_other (ad_ne (by decide))).trans ((set_other (ad_ne (by decide))).trans h.c4))))
  · rw [set_frz, set_frz, set_frz, set_frz, set_frz]; exact h.z0
  · rw [set_frz, set_frz, set_frz, set_frz, set_frz]; exact h.z1
  · rw [set_frz, set_frz, set_frz, set_frz, set_frz]; exact h.z2
  · rw [set_frz, set_frz, set_frz, set_frz, set_frz]; exact h.z3
  · rw [set_frz, set_frz, set_frz, set_frz, set_frz]; exact h.z4
theorem sc_os (w : World) (a : Addr) (v : Value) : (w.setCell a v).os = w.os := rfl
theorem sc_tape (w : World) (a : Addr) (v : Value) : (w.setCell a v).tape = w.tape := rfl
theorem sc_out (w : World) (a : Addr) (v : Value) : (w.setCell a v).output = w.output := rfl
theorem set5_other (w : World) (b : Nat) (f : Fig) {k : Nat} (h : k ≠ b) : (set5 w b f).heap[k]? = w.heap[k]? := by
  unfold set5
  rw [Below.heap_setCell _ _ _ _ (by exact h), Below.heap_setCell _ _ _ _ (by exact h), Below.heap_setCell _ _ _ _ (by exact h), Below.heap_setCell _ _ _ _ (by exact h), Below.heap_setCell _ _ _ _ (by exact h)]
theorem set5_size (w : World) (b : Nat) (f : Fig) : (set5 w b f).heap.size = w.heap.size := by
  unfold set5; simp [World.setCell]
theorem set5_oth (w : World) (b : Nat) (f : Fig) : (set5 w b f).os = w.os ∧ (set5 w b f).tape = w.tape ∧ (set5 w b f).output = w.output := by
  unfold set5
  simp only [sc_os, sc_tape, sc_out, and_self]
theorem turned_set5 (w : World) (b : Nat) (f : Fig) (sv : Value) : Turned w (set5 w b f) b sv :=
  ⟨(set5_oth w b f).1, (set5_oth w b f).2.1, (set5_oth w b f).2.2, Nat.le_of_eq (set5_size w b f).symm, fun _ _ hk _ => set5_other w b f hk⟩
theorem fig_new (w : World) : FigAt (w.alloc (.cells #[.int .i64 0, .int .i64 0, .int .i64 0, .int .i64 0, .int .i64 0] 38)) w.heap.size fig0 := by
  constructor <;> simp [fig0]
def nilS : Value := .slice none 0 0
theorem turned_below {w w1 w2 : World} {b : Nat} (h : Turned w w1 b nilS) (hb : Below w1.heap.size w1 w2) : Turned w w2 b nilS :=
  h.trans (Turned.of_below hb) (Fresh.refl _ _)
set_option maxRecDepth 20000 in
set_option maxHeartbeats 8000000 in
theorem until_any (l : List Ev) (v : Value) (m : Int) (w : World) (h : EvsAt w v l) (hw : ∀ e ∈ l, EvW e) (hl : l.length ≤ 10000) (hn : (l.map (·.id)).Nodup) (ht : LenTab w) :
    Calls Tryz.prog 127 #[v, .int .i64 m] w fun r w' => r = .returned (figV (untl l m)) ∧ Below w.heap.size w w' := by
  obtain ⟨W0, hW0⟩ : ∃ W, W = (w.alloc (.cells #[.int .i64 0, .int .i64 0, .int .i64 0, .int .i64 0, .int .i64 0] 38)).alloc (.cells #[.int .i64 0, .int .i64 0, .int .i64 0, .int .i64 0, .int .i64 0] 38) := ⟨_, rfl⟩
  have hb0 : Below w.heap.size w W0 := by rw [hW0]; exact ((Below.refl _ _).alloc (Nat.le_refl _) _).alloc (by simp) _
  have hs0 : W0.heap.size = w.heap.size + 2 := by rw [hW0]; simp
  have hR0 : FigAt W0 w.heap.size fig0 := by rw [hW0]; exact (fig_new w).below ((Below.refl _ _).alloc (Nat.le_refl _) _)
  have hF0 : FigAt W0 (w.heap.size + 1) fig0 := by
    rw [hW0]
    have := fig_new (w.alloc (.cells #[.int .i64 0, .int .i64 0, .int .i64 0, .int .i64 0, .int .i64 0] 38))
    simpa using this
  have hmo := months_any l v W0 (h.below hb0) hw hl hn (ht.below hb0)
  have hml := mons_len l
  obtain ⟨U, hU⟩ : ∃ U, U = untl l m := ⟨_, rfl⟩
  have HU : Hid (U = upto m fig0 (mons l)) := hU
  obtain ⟨ms, hms⟩ : ∃ ms, ms = mons l := ⟨_, rfl⟩
  rw [← hms] at hmo hml HU
  rw [← hU]
  clear hU
  obtain ⟨u1, u2, u3, u4, u5⟩ := U
  have HW0 : Hid (W0 = _) := hW0
  obtain ⟨ao, cap, rfl, _⟩ := h.toC
  clear h hw hn ht hms hW0
  go_enter Tryz.func127, Tryz.ntmps127
  go_wp2_with fail
  rw [← HW0.out]
  refine hmo.mono ?_
  rintro r w1 ⟨mv, rfl, hown, hb1⟩
  obtain ⟨ad, cpm, hmv⟩ := own_lenN hown
  subst hmv
  have HOWN : Hid (w1.ownsRow W0.heap.size 242 6 (.slice ad ms.length cpm) ms.length (ms.flatMap monC)) := hown
  have HR1 : Hid (FigAt w1 w.heap.size fig0) := hR0.below hb1
  have HF1 : Hid (FigAt w1 (w.heap.size + 1) fig0) := hF0.below hb1
  have hB1 : Below w.heap.size w w1 := hb0.trans (hb1.mono hb0.size)
  have hs1 : w.heap.size + 2 ≤ w1.heap.size := by have := hb1.size; omega
  clear hmo hown hb1 HW0 hR0 hF0 hb0
  have HS0 : Hid (W0.heap.size = w.heap.size + 2) := hs0
  clear hs0
  go_wp2
  go_loopw [11] (fun i wr => ∃ k : Nat, k ≤ ms.length ∧ i = .int .i64 k ∧ Hid (FigAt wr (w.heap.size + 1) (upto m fig0 (ms.take k))) ∧ Hid (Turned w1 wr (w.heap.size + 1) nilS)) (fun i _ => ms.length - (intOf i).toNat)
  case atStart => exact ⟨0, Nat.zero_le _, rfl, HF1, Turned.refl _ _ _⟩
  case round =>
    obtain ⟨k, hk, rfl, HF, HT⟩ := hrel
    by_cases hlt : k < ms.length
    · rcases own_form HOWN.out with ⟨_, a2, _⟩ | ⟨g, cp, e1, hg1, hg2, _⟩
      · omega
      · simp only [Value.slice.injEq] at e1
        obtain ⟨rfl, _, rfl⟩ := e1
        obtain ⟨x, hx⟩ : ∃ x, x = ms[k] := ⟨_, rfl⟩
        have HTK : Hid (upto m fig0 (ms.take (k + 1)) = if x.n ≤ m then (upto m fig0 (ms.take k)).plus x.f else upto m fig0 (ms.take k)) := by
          show _ = _
          rw [List.take_succ_eq_append_getElem hlt, upto_append, hx]
          rfl
        have hgne : g ≠ w.heap.size + 1 := by have := HS0.out; omega
        have hbl : wr.heap[g]? = w1.heap[g]? := HT.out.block g hg2 hgne (by simp [nilS, Value.ownBlock])
        have hcw : ∀ j, j < 6 → wr.cell? ⟨g, k * 6 + j, none⟩ = (monC x)[j]? := fun j hj => by
          rw [World.cell?_of_block (a := ⟨g, k * 6 + j, none⟩) hbl, (own_cell monC_len HOWN.out k j hlt hj).1, hx]
        obtain ⟨xn, x1, x2, x3, x4, x5⟩ := x
        have q0 := hcw 0 (by omega)
        have q1 := hcw 1 (by omega)
        have q2 := hcw 2 (by omega)
        have q3 := hcw 3 (by omega)
        have q4 := hcw 4 (by omega)
        have q5 := hcw 5 (by omega)
        simp only [monC, figC, List.getElem?_cons_zero, List.getElem?_cons_succ, Nat.add_zero] at q0 q1 q2 q3 q4 q5
        simp only at HTK
        obtain ⟨f, hf⟩ : ∃ f, f = upto m fig0 (ms.take k) := ⟨_, rfl⟩
        rw [← hf] at HF HTK
        clear hcw hx hf hbl
        obtain ⟨W2, hW2⟩ : ∃ W, W = wr.alloc (.cells #[.int .i64 xn, .int .i64 x1, .int .i64 x2, .int .i64 x3, .int .i64 x4, .int .i64 x5] 242) := ⟨_, rfl⟩
        have hb2 : Below wr.heap.size wr W2 := by rw [hW2]; exact (Below.refl _ _).alloc (Nat.le_refl _) _
        have hF2 := HF.out.below hb2
        have hT2 := turned_below HT.out hb2
        by_cases hc : xn ≤ m
        · rw [if_pos hc] at HTK
          have hpl := plus_any f ⟨x1, x2, x3, x4, x5⟩ W2
          obtain ⟨R, hR⟩ : ∃ R, R = f.plus ⟨x1, x2, x3, x4, x5⟩ := ⟨_, rfl⟩
          rw [← hR] at hpl HTK
          have c0 := hF2.c0
          have c1 := hF2.c1
          have c2 := hF2.c2
          have c3 := hF2.c3
          have c4 := hF2.c4
          rw [hW2] at c0 c1 c2 c3 c4
          have HF2 : Hid (FigAt W2 (w.heap.size + 1) f) := hF2
          obtain ⟨f1, f2, f3, f4, f5⟩ := f
          obtain ⟨R1, R2, R3, R4, R5⟩ := R
          unfold figV at hpl
          simp only at hpl c0 c1 c2 c3 c4
          have HW2 : Hid (W2 = _) := hW2
          clear hF2 hW2 hR
          go_wp2_with fail
          rw [← HW2.out]
          refine hpl.mono ?_
          rintro r w3 ⟨rfl, hb3⟩
          have hF3 := HF2.out.below hb3
          have d0 := hF3.c0
          have d1 := hF3.c1
          have d2 := hF3.c2
          have d3 := hF3.c3
          have d4 := hF3.c4
          have e0 := hF3.z0
          have e1 := hF3.z1
          have e2 := hF3.z2
          have e3 := hF3.z3
          have e4 := hF3.z4
          simp only at d0 d1 d2 d3 d4
          have HF4 : Hid (FigAt (set5 w3 (w.heap.size + 1) ⟨R1, R2, R3, R4, R5⟩) (w.heap.size + 1) ⟨R1, R2, R3, R4, R5⟩) := hF3.put _
          have HT4 : Hid (Turned w1 (set5 w3 (w.heap.size + 1) ⟨R1, R2, R3, R4, R5⟩) (w.heap.size + 1) nilS) := (turned_below hT2 hb3).trans (turned_set5 _ _ _ _) (Fresh.refl _ _)
          clear hpl hF3 c0 c1 c2 c3 c4 q0 q1 q2 q3 q4 q5 hT2
          go_wp2
          go_roundw
          case rel =>
            refine ⟨k + 1, by omega, by go_num, ?_, HT4⟩
            show FigAt _ _ _
            rw [HTK.out]
            exact HF4.out
          case measure => simp [intOf]; omega
        · rw [if_neg hc] at HTK
          have HF2 : Hid (FigAt W2 (w.heap.size + 1) (upto m fig0 (ms.take (k + 1)))) := by rw [HTK.out]; exact hF2
          have HT2 : Hid (Turned w1 W2 (w.heap.size + 1) nilS) := hT2
          rw [hW2] at HF2 HT2
          clear hF2 hT2 hW2
          go_wp2
          go_roundw
          case rel => exact ⟨k + 1, by omega, by go_num, HF2, HT2⟩
          case measure => simp [intOf]; omega
    · obtain rfl : k = ms.length := by omega
      rw [List.take_length, ← HU.out] at HF
      have hR := HR1.out.same (HT.out.block w.heap.size (by omega) (by omega) (by simp [nilS, Value.ownBlock]))
      have d0 := hR.c0
      have d1 := hR.c1
      have d2 := hR.c2
      have d3 := hR.c3
      have d4 := hR.c4
      have e0 := hR.z0
      have e1 := hR.z1
      have e2 := hR.z2
      have e3 := hR.z3
      have e4 := hR.z4
      have c0 := HF.out.c0
      have c1 := HF.out.c1
      have c2 := HF.out.c2
      have c3 := HF.out.c3
      have c4 := HF.out.c4
      have HG := (hR.put ⟨u1, u2, u3, u4, u5⟩)
      have hBF : Below w.heap.size w (set5 wr w.heap.size ⟨u1, u2, u3, u4, u5⟩) := by
        refine ⟨(set5_oth _ _ _).1.trans (HT.out.os.trans hB1.os), (set5_oth _ _ _).2.1.trans (HT.out.tape.trans hB1.tape), (set5_oth _ _ _).2.2.trans (HT.out.output.trans hB1.output), ?_, fun j hj => ?_⟩
        · rw [set5_size]; have := HT.out.size; omega
        · rw [set5_other _ _ _ (by omega), HT.out.block j (by omega) (by omega) (by simp [nilS, Value.ownBlock])]
          exact hB1.block j hj
      have g0 := HG.c0
      have g1 := HG.c1
      have g2 := HG.c2
      have g3 := HG.c3
      have g4 := HG.c4
      unfold set5 at g0 g1 g2 g3 g4
      simp only [fig0] at d0 d1 d2 d3 d4
      simp only at c0 c1 c2 c3 c4 g0 g1 g2 g3 g4
      have HBF : Hid _ := hBF
      clear hR HG hBF
      go_wp2
      refine bodyPost_ret (v := .agg #[.int .i64 u1, .int .i64 u2, .int .i64 u3, .int .i64 u4, .int .i64 u5]) (by simp [results, Tryz.results127, go_sem, *]) rfl ⟨rfl, ?_⟩
      exact HBF.out
end Go.Proofs.YtdkhohlhdiekmaaGreatDoor
