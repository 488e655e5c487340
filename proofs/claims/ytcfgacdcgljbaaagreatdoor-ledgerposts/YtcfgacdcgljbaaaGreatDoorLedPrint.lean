/- The walk of ledger.Print. -/
import Derived.Test.YtcfgacdcgljbaaaGreatDoorBnB
import Derived.Test.YtcfgacdcgljbaaaGreatDoorLedBuild
import Derived.Test.YtcfgacdcgljbaaaGreatDoorBnG
import Derived.Test.YtcfgacdcgljbaaaGreatDoorBnI
namespace Go.Proofs.YtcfgacdcgljbaaaGreatDoor
open Go.RowKit
theorem World_new (w : World) (o : Obj) : (w.alloc o).heap[w.heap.size]? = some o := by
  show (w.heap.push o)[w.heap.size]? = some o
  simp
theorem byteCells_append (a b : List UInt8) : Lib.byteCells (a ++ b) = Lib.byteCells a ++ Lib.byteCells b := by simp [Lib.byteCells]
theorem strCells_byte (s : ByteArray) : Lib.strCells s = Lib.byteCells s.data.toList := rfl
theorem bld_below {B b : Nat} {bs : List Value} {w w' : World} (h : Lib.IsBuilder 166 5 B b bs w) (hb : Below w.heap.size w w') : Lib.IsBuilder 166 5 B b bs w' := by
  have one : ∀ {p : Value}, Lib.BuilderAt 166 5 B b p bs w → Lib.BuilderAt 166 5 B b p bs w' := fun {p} h => by
    have hlt := h.lt
    obtain ⟨hB, v, hbk, hown, hne⟩ := h
    exact ⟨hB, v, (hb.block b hlt).trans hbk, own_below hown hb (Nat.le_refl _), hne⟩
  rcases h with h | h
  · exact Or.inl (one h)
  · exact Or.inr (one h)
set_option maxRecDepth 20000 in
set_option maxHeartbeats 4000000 in
theorem lprint_any (ps : List Pst) (v : Value) (w : World) (h : PstsAt w v ps) (hl : ps.length ≤ 10000) (hs : ∀ p ∈ ps, I64 p.amt ∧ p.deb.size ≤ 1000 ∧ p.cre.size ≤ 1000) :
    Calls Tryz.prog 25 #[v] w fun r w' => r = .returned (.string ⟨(printL ps).toArray⟩) ∧ Below w.heap.size w w' := by
  obtain ⟨ad, nv, cv, hv⟩ : ∃ ad n cap, v = .slice ad n cap ∧ n = ps.length := by
    rcases h with ⟨e, e2⟩ | ⟨g, o, c, e, _⟩
    · exact ⟨none, 0, 0, e, by rw [e2]; rfl⟩
    · exact ⟨_, _, _, e, rfl⟩
  obtain ⟨rfl, hnn⟩ := hv
  subst hnn
  have HS := hidE hs
  have HPA : Hid (PstsAt w (.slice ad ps.length cv) ps) := h
  clear h hs
  go_enter Tryz.func25, Tryz.ntmps25
  go_wp2
  obtain ⟨w0, hw0⟩ : ∃ W, W = w.alloc (.cells #[.pointer none, .slice none 0 0] 166) := ⟨_, rfl⟩
  have hi0 : Lib.IsBuilder 166 5 w.heap.size w.heap.size (Lib.byteCells (printL (ps.take 0))) w0 := by
    rw [hw0]
    refine Or.inl ⟨Nat.le_refl _, .slice none 0 0, World_new w _, ?_, by simp [Value.ownBlock]⟩
    exact World.ownsRow_nil _ _ _ _
  have hb0 : Below w.heap.size w w0 := by rw [hw0]; exact (Below.refl _ _).alloc (Nat.le_refl _) _
  rw [← hw0]
  have HI0 := hidE hi0
  have HB0 := hidE hb0
  clear hi0 hb0 hw0
  go_loopw [8] (fun i wr => ∃ k : Nat, k ≤ ps.length ∧ i = .int .i64 k ∧ Hid (Lib.IsBuilder 166 5 w.heap.size w.heap.size (Lib.byteCells (printL (ps.take k))) wr) ∧ Hid (Below w.heap.size w wr)) (fun i _ => ps.length - (intOf i).toNat)
  case atStart => exact ⟨0, Nat.zero_le _, rfl, HI0, HB0⟩
  case round =>
    obtain ⟨k, hk, rfl, HI, HB⟩ := hrel
    have hsw := HB.out.size
    by_cases hlt : k < ps.length
    · rcases HPA.out.below HB.out with ⟨_, e2⟩ | ⟨g, o, cp, e1, hg, hc⟩
      · rw [e2] at hlt; exact absurd hlt (Nat.not_lt_zero _)
      · simp only [Value.slice.injEq] at e1
        obtain ⟨rfl, _, rfl⟩ := e1
        obtain ⟨x, hx⟩ : ∃ x, x = ps[k] := ⟨_, rfl⟩
        have q0 := hc k 0 hlt (by omega)
        have q1 := hc k 1 hlt (by omega)
        have q2 := hc k 2 hlt (by omega)
        have hxs := HS.out ps[k] (List.getElem_mem hlt)
        have hln := printL_len (ps.take k) (fun p hp => HS.out p (List.mem_of_mem_take hp))
        have htl : (ps.take k).length ≤ 10000 := by rw [List.length_take]; omega
        have HPS : Hid (printL (ps.take (k + 1)) = printL (ps.take k) ++ pline ps[k]) := printL_snoc hlt
        rw [← hx] at q0 q1 q2 hxs HPS
        clear hx hc
        obtain ⟨d, c, m⟩ := x
        simp only [pstC, List.getElem?_cons_zero, List.getElem?_cons_succ, Nat.add_zero] at q0 q1 q2
        simp only at hxs
        have hm0 := hxs.1.1
        have hm1 := hxs.1.2
        have hd := hxs.2.1
        have hcs := hxs.2.2
        have hza := amt_strsize m hm0 hm1
        obtain ⟨ts, hts⟩ : ∃ s, s = strOfNums (amt m) := ⟨_, rfl⟩
        have hPr := print_any m
        rw [← hts] at hza hPr
        have HAS : Hid (ts = strOfNums (amt m)) := hts
        obtain ⟨W1, hW1⟩ : ∃ W, W = wr.alloc (.cells #[.string d, .string c, .int .i64 m] 75) := ⟨_, rfl⟩
        have hb1 : Below wr.heap.size wr W1 := by rw [hW1]; exact (Below.refl _ _).alloc (Nat.le_refl _) _
        have c0 : W1.cell? ⟨wr.heap.size, 0, none⟩ = some (.string d) ∧ W1.cell? ⟨wr.heap.size, 1, none⟩ = some (.string c) ∧ W1.cell? ⟨wr.heap.size, 2, none⟩ = some (.int .i64 m) := by rw [hW1]; simp
        have HW1 : Hid (W1 = wr.alloc (.cells #[.string d, .string c, .int .i64 m] 75)) := hW1
        clear hW1 hxs hts
        go_wp2_with fail
        rw [← HW1.out]
        refine wp_region_turn [(.pure, 0), (.read, 1), (.pure, 4), (.read, 5), (.pure, 8), (.read, 9), (.make, 2), (.pure, 3), (.pure, 6), (.pure, 7), (.pure, 10), (.pure, 11), (.turn, 12)] (by kernel_rfl) (by kernel_rfl) ?_
        obtain ⟨W2, hW2⟩ : ∃ W, W = W1.drew := ⟨_, rfl⟩
        rw [← hW2]
        have hb2 : Below W1.heap.size W1 W2 := by rw [hW2]; exact below_drew _
        clear hW2
        have hb12 : Below wr.heap.size wr W2 := hb1.trans (hb2.mono hb1.size)
        have f0 := fun n : Up W2 => n.cell (below_cellL hb2 c0.1)
        have f1 := fun n : Up W2 => n.cell (below_cellL hb2 c0.2.1)
        have f2 := fun n : Up W2 => n.cell (below_cellL hb2 c0.2.2)
        have hU := up_ne
        have hA := anyW_ne
        have HB12 := hidE hb12
        clear hb1 hb2 hb12 c0 q0 q1 q2
        repeat (first | refine turn_p rfl ?_ | refine turn_q rfl ?_); go_big_quiet_step (fail); refine wpQuiet_nil ?_
        refine turn_n rfl ?_
        go_wp2_with fail
        refine (hPr _ hm0 hm1).mono ?_
        rintro e W3 ⟨rfl, hb3⟩
        go_wp2_with fail
        refine ⟨rfl, hb3, ?_⟩
        clear f0 f1 f2
        repeat (first | refine turn_p rfl ?_ | refine turn_q rfl ?_); go_big_quiet_step (fail); refine wpQuiet_nil ?_
        refine turn_t rfl ?_
        have hb13 : Below wr.heap.size wr W3 := HB12.out.trans (hb3.mono HB12.out.size)
        have hI3 := bld_below HI.out hb13
        have hs3 := hb13.size
        have hB3 : Below w.heap.size w W3 := HB.out.trans (hb13.mono hsw)
        obtain ⟨sx, hsx⟩ : ∃ s : ByteArray, s = ts ++ ⟨#[32]⟩ ++ d ++ ⟨#[32, 102, 114, 111, 109, 32]⟩ ++ c ++ ⟨#[10]⟩ := ⟨_, rfl⟩
        have hsd : sx.data.toList = pline ⟨d, c, m⟩ := by
          rw [hsx, HAS.out]
          unfold pline
          simp only [← strOf_byt]
          simp
        have hsz : sx.size ≤ 2100 := by
          have := pline_len ⟨d, c, m⟩ ⟨hm0, hm1⟩ hd hcs
          rw [← hsd] at this
          simpa using this
        have hwr := bwrite_any w.heap.size w.heap.size _ sx W3 hI3 (by simp only [Lib.byteCells, List.length_map]; omega) (by omega)
        have HI4 : Hid (∀ w', Lib.BuilderAt 166 5 w.heap.size w.heap.size (.pointer (some ⟨w.heap.size, 0, none⟩)) (Lib.byteCells (printL (ps.take k)) ++ Lib.strCells sx) w' → Lib.IsBuilder 166 5 w.heap.size w.heap.size (Lib.byteCells (printL (ps.take (k + 1)))) w') := fun w' h => by
          rw [HPS.out, byteCells_append, ← hsd, ← strCells_byte]
          exact Or.inr h
        have HB3 := hidE hB3
        rw [hsx] at hwr
        have HSX := hidE hsx
        clear hsx hsd hI3 hb13 hB3 hb3
        go_wp2_with fail
        refine hwr.mono ?_
        rintro e W4 ⟨rfl, hI4, hb4⟩
        have HI5 := hidE (HI4.out W4 (by rw [HSX.out]; exact hI4))
        have HB5 : Hid (Below w.heap.size w W4) := HB3.out.trans hb4
        clear hwr hI4 hb4
        go_wp2_with fail
        refine ⟨rfl, ?_⟩
        refine turn_nil ?_
        go_wp2
        go_roundw
        case rel => exact ⟨k + 1, by omega, by go_num, HI5, HB5⟩
        case measure => simp [intOf]; omega
    · obtain rfl : k = ps.length := by omega
      rw [List.take_length] at HI
      have hst := Tryz.Builder_String_any w.heap.size w.heap.size (printL ps) wr HI.out hsw
      go_wp2_with fail
      refine hst.mono ?_
      rintro e W4 ⟨rfl, hb4⟩
      have HB5 : Hid (Below w.heap.size w W4) := HB.out.trans hb4
      clear hst hb4
      go_wp2
      go_ret
      exact ⟨rfl, HB5.out⟩
end Go.Proofs.YtcfgacdcgljbaaaGreatDoor
