/- The walk of ledger.Parse. -/
import Derived.Test.YtcfgacdcgljbaaaGreatDoorLedLines
import Derived.Test.YtcfgacdcgljbaaaGreatDoorLedReadN
import Derived.Test.YtcfgacdcgljbaaaGreatDoorBnG
import Derived.RangeFuncBox
import Derived.Maps.AppendAt
namespace Go.Proofs.YtcfgacdcgljbaaaGreatDoor
open Go.RowKit
attribute [local go_sem] Oper.semAt_some
/-- What Parse holds between two lines. -/
def ParI (w : World) (B : Nat) (pre : List (List UInt8)) (W : World) : Prop :=
  ∃ (ps : List Pst) (v : Value), (∀ p ∈ ps, Vp p) ∧ pre = ps.map pline ∧ Boxed W (w.heap.size + 2) 73 v ∧ W.ownsRow B 75 3 v ps.length (ps.flatMap pstC) ∧
    Boxed W w.heap.size 73 (.slice none 0 0) ∧ Boxed W (w.heap.size + 1) 51 .nilIface ∧ Below w.heap.size w W ∧ B ≤ W.heap.size
/-- A line is none. -/
def ParX (w : World) (pre : List (List UInt8)) (W : World) : Prop :=
  ∃ (ps : List Pst) (bad : List UInt8) (b : Nat), (∀ p ∈ ps, Vp p) ∧ pre = ps.map pline ++ [bad] ∧ (¬ ∃ p, Vp p ∧ pline p = bad) ∧ Boxed W w.heap.size 73 (.slice none 0 0) ∧ Boxed W (w.heap.size + 1) 51 (.iface 187 (.pointer (some ⟨b, 0, none⟩))) ∧
    w.heap.size + 4 ≤ b ∧ W.cell? ⟨b, 0, none⟩ = some (.int .i64 3) ∧ W.cell? ⟨b, 1, none⟩ = some (.int .i64 ps.length) ∧ Below w.heap.size w W
theorem boxed_grown {W W' : World} {sb B b : Nat} {row : Option Nat} {t : TypeId} {v : Value} (h : Boxed W b t v) (hg : W.grownBy W' row) (hr : ∀ r, row = some r → r = sb ∨ (B ≤ r ∧ ∃ o : Obj, W.heap[r]? = some o ∧ o.isCells = false)) (hb : b ≠ sb) : Boxed W' b t v := by
  refine h.kept hg fun e => ?_
  rcases hr b e.symm with x | ⟨_, o, ho, hc⟩
  · exact hb x
  · rw [show W.heap[b]? = _ from h] at ho
    cases ho
    cases hc
theorem below_grown {N sb B : Nat} {w W W' : World} {row : Option Nat} (h : Below N w W) (hg : W.grownBy W' row) (hr : ∀ r, row = some r → r = sb ∨ (B ≤ r ∧ ∃ o : Obj, W.heap[r]? = some o ∧ o.isCells = false)) (hs : N ≤ sb) (hB : N ≤ B) (hN : N ≤ W.heap.size) : Below N w W' :=
  h.grown hg hN fun j e => by
    rcases hr j e with x | ⟨x, _⟩
    · omega
    · omega
theorem parI_abd (w : World) (B : Nat) (hB : B = w.heap.size + 4) : Abd (w.heap.size + 3) B (ParI w B) := by
  rintro pre W W' row ⟨ps, v, h1, h2, h3, h4, h5, h6, h7, h8⟩ hg hr
  refine ⟨ps, v, h1, h2, boxed_grown h3 hg hr (by omega), h4.kept hg ?_, boxed_grown h5 hg hr (by omega), boxed_grown h6 hg hr (by omega), below_grown h7 hg hr (by omega) (by omega) h7.size, Nat.le_trans h8 hg.size⟩
  rcases h4.2 with ⟨rfl, _⟩ | ⟨g, cap, cur, rfl, hBg, hgb, _⟩
  · exact .inl rfl
  · refine .inr fun e => ?_
    rcases hr g (by simpa [Value.ownBlock] using e.symm) with x | ⟨_, o, ho, hc⟩
    · omega
    · rw [hgb] at ho
      cases ho
      cases hc
theorem cell_grown {W W' : World} {sb B : Nat} {row : Option Nat} {a : Addr} {v : Value} (h : W.cell? a = some v) (hg : W.grownBy W' row) (hr : ∀ r, row = some r → r = sb ∨ (B ≤ r ∧ ∃ o : Obj, W.heap[r]? = some o ∧ o.isCells = false)) (hb : a.block ≠ sb) : W'.cell? a = some v := by
  refine (World.cell?_of_block (a := a) (hg.block a.block (World.block_lt_of_cell? _ _ h) fun e => ?_)).trans h
  rcases hr a.block e.symm with x | ⟨_, o, ho, hc⟩
  · exact hb x
  · obtain ⟨o', ho', hc'⟩ := cells_of_cell h
    rw [ho] at ho'
    cases ho'
    rw [hc] at hc'
    cases hc'
theorem parX_abd (w : World) (B : Nat) (hB : B = w.heap.size + 4) : Abd (w.heap.size + 3) B (ParX w) := by
  rintro pre W W' row ⟨ps, bad, b, h1, h2, h3, h4, h5, h6, h7, h8, h9⟩ hg hr
  exact ⟨ps, bad, b, h1, h2, h3, boxed_grown h4 hg hr (by omega), boxed_grown h5 hg hr (by omega), h6, cell_grown h7 hg hr (by show b ≠ _; omega), cell_grown h8 hg hr (by show b ≠ _; omega), below_grown h9 hg hr (by omega) (by omega) h9.size⟩
theorem lines_call (s : ByteArray) (w : World) : Calls Tryz.prog 79 #[.string s] w fun e w' => e = .returned (.func (.func 128) #[] #[.pointer (some ⟨w.heap.size, 0, none⟩)]) ∧ w' = w.alloc (.cells #[.string s] 9) := by
  go_enter Tryz.func79, Tryz.ntmps79
  go_wp2
  go_ret
  exact ⟨rfl, rfl⟩
/-- How Parse ends. -/
def ParP (s : ByteArray) (w : World) (r : Ending) (W : World) : Prop :=
  (∃ (ps : List Pst) (v : Value), (∀ p ∈ ps, Vp p) ∧ linesL s.data.toList = ps.map pline ∧ r = .returned (.tuple #[v, .nilIface]) ∧ W.ownsRow w.heap.size 75 3 v ps.length (ps.flatMap pstC) ∧ Below w.heap.size w W) ∨
  (∃ (ps : List Pst) (bad : List UInt8) (rest : List (List UInt8)) (b : Nat), (∀ p ∈ ps, Vp p) ∧ linesL s.data.toList = ps.map pline ++ bad :: rest ∧ (¬ ∃ p, Vp p ∧ pline p = bad) ∧ r = .returned (.tuple #[.slice none 0 0, .iface 187 (.pointer (some ⟨b, 0, none⟩))]) ∧
    w.heap.size ≤ b ∧ W.cell? ⟨b, 0, none⟩ = some (.int .i64 3) ∧ W.cell? ⟨b, 1, none⟩ = some (.int .i64 ps.length) ∧ Below w.heap.size w W)
set_option maxRecDepth 100000 in
set_option maxHeartbeats 8000000 in
theorem lparse_any (s : ByteArray) (w : World) (hs : s.size ≤ 100000) (hg : LedG w) : Calls Tryz.prog 31 #[.string s] w (ParP s w) := by
  obtain ⟨i0, hi, hz0, hz1, hz2⟩ := info_parts Tryz.infoPst
  refine (callsIn_wide (n := 6)).1 ?_
  have HG := hidE hg
  have HLL := hidE (lines_len s.data.toList)
  have hss : s.data.toList.length ≤ 100000 := by rw [← size_ba]; exact hs
  clear hg
  obtain ⟨w0, hw0⟩ : ∃ W, W = ((w.alloc (.cells #[.slice none 0 0] 73)).alloc (.cells #[.nilIface] 51)).alloc (.cells #[.slice none 0 0] 73) := ⟨_, rfl⟩
  obtain ⟨w1, hw1⟩ : ∃ W, W = w0.alloc (.cells #[.string s] 9) := ⟨_, rfl⟩
  have hsz0 : w0.heap.size = w.heap.size + 3 := by rw [hw0]; simp
  have hsz1 : w1.heap.size = w.heap.size + 4 := by rw [hw1]; simp [hsz0]
  have b0 : Below w.heap.size w w0 := by rw [hw0]; exact (((Below.refl _ _).alloc (Nat.le_refl _) _).alloc (by simp) _).alloc (by simp; omega) _
  have b1 : Below w.heap.size w w1 := by rw [hw1]; exact b0.alloc b0.size _
  have x0 : Boxed w1 w.heap.size 73 (.slice none 0 0) := by rw [hw1, hw0]; exact (((Boxed.new w _ _).alloc _).alloc _).alloc _
  have x1 : Boxed w1 (w.heap.size + 1) 51 .nilIface := by
    rw [hw1, hw0]
    have := Boxed.new (w.alloc (.cells #[.slice none 0 0] 73)) 51 .nilIface
    rw [World.size_alloc] at this
    exact (this.alloc _).alloc _
  have x2 : Boxed w1 (w.heap.size + 2) 73 (.slice none 0 0) := by
    rw [hw1, hw0]
    have := Boxed.new ((w.alloc (.cells #[.slice none 0 0] 73)).alloc (.cells #[.nilIface] 51)) 73 (.slice none 0 0)
    rw [World.size_alloc, World.size_alloc] at this
    exact this.alloc _
  have x3 : w1.cell? ⟨w.heap.size + 3, 0, none⟩ = some (.string s) ∧ w1.frozen? ⟨w.heap.size + 3, 0, none⟩ = false := by
    have h := Boxed.new w0 9 (.string s)
    rw [hsz0, ← hw1] at h
    exact ⟨h.cell, h.frozen⟩
  have HW0 := hidE hw0
  have HW1 := hidE hw1
  have hlc := lines_call s w0
  have hfL : Fence.wide.fn 79 := trivial
  have hfR : Fence.wide.fn 80 := trivial
  have HI0 : Hid (ParI w w1.heap.size [] w1) := ⟨[], .slice none 0 0, (fun p hp => absurd hp (List.not_mem_nil)), rfl, x2, World.ownsRow_nil _ _ _ _, x0, x1, b1, Nat.le_refl _⟩
  have HSQ : Hid (SeqC Fence.wide (6 - 1) Tryz.prog 128 #[.pointer (some ⟨w.heap.size + 3, 0, none⟩)] encL (w.heap.size + 3) (linesL s.data.toList) w1) := lines1_in (w.heap.size + 3) s w1 (by omega) x3.1 x3.2 _ (by omega)
  clear x0 x1 x2 x3 b0 b1 hw0 hw1
  refine callsIn_of_wp_marks Tryz.func31 rfl trivial ?_ rfl
  simp only [Tryz.ntmps31, List.size_toArray, List.length_cons, List.length_nil, Nat.reduceAdd, Nat.reduceSub, Array.replicate_succ, Array.replicate_zero, List.push_toArray, List.append_toArray, List.nil_append, List.cons_append]
  gi_wp2_with (gi_at_call 79; rw [← HW0.out]; refine (callsIn_wide.2 hlc).mono ?_; rintro e w' ⟨rfl, rfl⟩)
  rw [← HW1.out]
  obtain ⟨h, hh⟩ : ∃ h, h = w.heap.size := ⟨_, rfl⟩
  have hB : w1.heap.size = h + 4 := by rw [hsz1, hh]
  have HH := hidE hh
  refine wpIn_rangeC (F := Fence.wide) rfl (by omega) (gf := 128) (lb := #[.pointer (some ⟨w.heap.size + 3, 0, none⟩)]) rfl trivial (enters_of Tryz.func128 (by kernel_rfl) rfl) HSQ.out (by omega)
    (ParI w w1.heap.size) (ParX w) (parI_abd w _ hsz1) (parX_abd w _ hsz1) HI0.out
    (fun x => { tmps := #[.string s, undef, .pointer (some ⟨w.heap.size, 0, none⟩), .pointer (some ⟨w.heap.size + 1, 0, none⟩), .pointer (some ⟨w.heap.size + 1 + 1, 0, none⟩), encL x, undef, undef, .string s, .func (.func 128) #[] #[.pointer (some ⟨w.heap.size + 3, 0, none⟩)], encL x, undef, undef, undef, undef, undef, undef, undef, undef, undef, undef, undef, undef, undef, undef, undef, undef, undef], defers := [] }) ?assign ?body ?done ?stop
  case assign =>
    intro l x W K hK
    gi_wp2
    exact hK
  case body =>
    rintro l pre x W ⟨ps, v, hv, hpre, hbl, hown, hb0, hb1, hbw, hBW⟩ hpx
    have hmem : x ∈ linesL s.data.toList := hpx.subset (by simp)
    have hxl := HLL.out.2 x hmem
    have hpl : ps.length ≤ 100000 := by
      have h1 := hpx.length_le
      have h2 := HLL.out.1
      rw [hpre] at h1
      simp at h1
      omega
    obtain ⟨adv, nv, cv, hvv⟩ := own_lenL hown
    subst hvv
    have hgW := HG.out.below hbw
    have hxs : (⟨x.toArray⟩ : ByteArray).size ≤ 100000 := by rw [size_ba]; simp; omega
    have c2 := hbl.cell
    have f2 := hbl.frozen
    have hn2 : 1 ≤ 6 - 1 - 1 := by omega
    unfold encL
    by_cases hy : ∃ p, Vp p ∧ pline p = x
    · obtain ⟨p, hp, hpx2⟩ := hy
      have hcl := read_yes p ⟨x.toArray⟩ W hp (by simpa using hpx2.symm) hxs hgW
      unfold pstV at hcl
      gi_wp2_with fail
      refine (CallsIn.inRound l (callsIn_wide.2 hcl)).mono ?_
      rintro e W2 ⟨rfl, hb2⟩
      have hbl2 : Boxed W2 (w.heap.size + 2) 73 (.slice adv nv cv) := (hb2.block _ hbl.lt).trans hbl
      have hb02 : Boxed W2 w.heap.size 73 (.slice none 0 0) := (hb2.block _ hb0.lt).trans hb0
      have hb12 : Boxed W2 (w.heap.size + 1) 51 .nilIface := (hb2.block _ hb1.lt).trans hb1
      have hown2 := own_below hown hb2 (Nat.le_refl _)
      obtain ⟨d, c, m⟩ := p
      obtain ⟨W3, hW3⟩ : ∃ X, X = W2.alloc (.cells #[.string d, .string c, .int .i64 m] 75) := ⟨_, rfl⟩
      have y0 : Boxed W3 w.heap.size 73 (.slice none 0 0) := by rw [hW3]; exact hb02.alloc _
      have y1 : Boxed W3 (w.heap.size + 1) 51 .nilIface := by rw [hW3]; exact hb12.alloc _
      have y2 : Boxed W3 (w.heap.size + 1 + 1) 73 (.slice adv nv cv) := by rw [hW3]; exact hbl2.alloc _
      have y3 : W3.ownsRow w1.heap.size 75 3 (.slice adv nv cv) ps.length (ps.flatMap pstC) := by rw [hW3]; exact hown2.alloc _
      have hb3 : Below W.heap.size W W3 := by rw [hW3]; exact hb2.alloc hb2.size _
      have hs3 : W3.heap.size = W2.heap.size + 1 := by rw [hW3]; simp
      have hsW := hb3.size
      have hsw : w1.heap.size ≤ W3.heap.size := by omega
      have hcp : ∀ j, j < 3 → W3.cell? ⟨W2.heap.size, j, none⟩ = (pstC ⟨d, c, m⟩)[j]? := fun j hj => by
        rw [hW3]
        obtain rfl | rfl | rfl : j = 0 ∨ j = 1 ∨ j = 2 := by omega
        all_goals simp [pstC]
      have c2' := y2.cell
      have f2' := y2.frozen
      have HW3 := hidE hW3
      have HB3 := hidE hb3
      have HY := hidE (And.intro y0 (And.intro y1 (And.intro y2 y3)))
      have c2W : W2.cell? ⟨w.heap.size + 1 + 1, 0, none⟩ = some (.slice adv nv cv) := hbl2.cell
      have k2W : w.heap.size + 1 + 1 < W2.heap.size := hbl2.lt
      have m2W : w.heap.size + 1 + 1 ≠ W2.heap.size := by omega
      have HS := hidE (And.intro hs3 (And.intro hsW (And.intro hsw hcp)))
      clear hcl hbl2 hb02 hb12 y0 y1 y2 y3 hW3 hb2 hb3 hs3 hsW hsw c2 f2 hcp c2' f2' hown2
      gi_wp2_with (gi_at_builtin; rw [← HW3.out]; refine wpListIn_append_own _ rfl _ _ 73 rfl w1.heap.size 75 i0 pstZ 3 40 Tryz.underlying73 hi hz0 hz1 hz2 rfl (by decide) (.slice adv nv cv) ps.length (ps.flatMap pstC) rfl (HY.out.2.2.2.alloc _) ⟨W3.heap.size, 0, none⟩ 1 1 (pstC ⟨d, c, m⟩) ?d0 rfl ?d1 ?d2 ?d3 ?d4 ?d5 ?_)
      case d0 => show Value.slice (some ⟨W2.heap.size + 1, 0, none⟩) 1 1 = _; rw [HS.out.1]
      case d1 =>
        intro j u hj
        have hj3 : j < 3 := by simpa [pstC] using (List.getElem?_eq_some_iff.1 hj).1
        obtain rfl | rfl | rfl : j = 0 ∨ j = 1 ∨ j = 2 := by omega
        all_goals (rw [Addr.add_lit, ← hj]; simp [pstC])
      case d2 => exact pstC_one _
      case d3 => unfold maxLen; omega
      case d4 => omega
      case d5 => have := HS.out.2.2.1; simp; omega
      intro v' w' hw1' hw2' _
      obtain ⟨T, hT⟩ : ∃ T : Obj, T = .cells #[.string d, .string c, .int .i64 m] 75 := ⟨_, rfl⟩
      rw [← hT] at hw2'
      rw [← hsz1] at hw1'
      obtain ⟨ad', nn', cc', hv'⟩ := own_lenL hw1'
      subst hv'
      have y2 := HY.out.2.2.1
      have y3 := HY.out.2.2.2
      have z2 := (y2.alloc T).kept hw2' (y2.not_row (by decide) y3)
      have z0 := (HY.out.1.alloc T).kept hw2' (HY.out.1.not_row (by decide) y3)
      have z1 := (HY.out.2.1.alloc T).kept hw2' (HY.out.2.1.not_row (by decide) y3)
      have hle : w.heap.size ≤ w1.heap.size := by omega
      have hap := Boxed.appended (n₀ := w.heap.size) (tmp := T) y2 (by decide) (own_below y3 (Below.refl _ _) hle) (by have := HS.out.2.2.1; omega) (by omega) (own_below hw1' (Below.refl _ _) hle) hw2'
      obtain ⟨_, q2, _, q4, q5⟩ := hap
      have q3 := hw1'.kept (grownBy_setCell' w' (w.heap.size + 1 + 1) (.slice ad' nn' cc')) (.inr (z2.not_row (by decide) hw1').symm)
      have HXX : Hid (KeepsFrom w1.heap.size W (w'.setCell ⟨w.heap.size + 1 + 1, 0, none⟩ (.slice ad' nn' cc')) ∧ (w'.setCell ⟨w.heap.size + 1 + 1, 0, none⟩ (.slice ad' nn' cc')).heap[w.heap.size + 3]? = W.heap[w.heap.size + 3]? ∧ ParI w w1.heap.size (pre ++ [x]) (w'.setCell ⟨w.heap.size + 1 + 1, 0, none⟩ (.slice ad' nn' cc'))) := by
        have hsW := HS.out.2.1
        refine ⟨⟨Nat.le_trans hsW q4.size, fun k o hk1 hk2 hk3 => ?_⟩, ?_, ps ++ [⟨d, c, m⟩], (.slice ad' nn' cc'), ?_, ?_, q2, ?_, ?_, ?_, ?_, ?_⟩
        · exact q4.same k o ((HB3.out.block k (Array.getElem?_eq_some_iff.1 hk2).1).trans hk2) hk3
        · rw [Below.heap_setCell _ _ _ _ (by show w.heap.size + 3 ≠ w.heap.size + 1 + 1; omega)]
          have hlt : w.heap.size + 3 < W.heap.size := by omega
          refine (hw2'.block _ (by simp; omega) fun e => ?_).trans ((((Below.refl W3.heap.size W3).alloc (Nat.le_refl _) T).block _ (by omega)).trans (HB3.out.block _ hlt))
          have h1 : w1.heap.size ≤ w.heap.size + 3 := ((y3.alloc T).lt _ e.symm).1
          omega
        · intro p hpm
          rcases List.mem_append.1 hpm with h | h
          · exact hv p h
          · rw [List.mem_singleton.1 h]; exact hp
        · rw [hpre, List.map_append, List.map_singleton, hpx2]
        · rw [List.length_append, List.flatMap_append, List.length_singleton, List.flatMap_singleton]; exact q3
        · exact (Below.heap_setCell _ _ _ _ (by show w.heap.size ≠ w.heap.size + 1 + 1; omega)).trans z0
        · exact (Below.heap_setCell _ _ _ _ (by show w.heap.size + 1 ≠ w.heap.size + 1 + 1; omega)).trans z1
        · exact (hbw.trans (HB3.out.mono hbw.size)).trans q5
        · exact Nat.le_trans hBW (Nat.le_trans hsW q4.size)
      have cz := z2.cell
      have fz := z2.frozen
      clear q2 q3 q4 q5 z0 z1 z2 y2 y3 hw1' hw2'
      gi_wp2
      rw [← hsz1, ← hpre]
      exact HXX.out
    · have hcl := read_no ⟨x.toArray⟩ W (by simpa using hy) hxs hgW
      gi_wp2_with fail
      refine (CallsIn.inRound l (callsIn_wide.2 hcl)).mono ?_
      rintro e W2 ⟨rfl, hb2⟩
      have hbl2 : Boxed W2 (w.heap.size + 2) 73 (.slice adv nv cv) := (hb2.block _ hbl.lt).trans hbl
      have hb02 : Boxed W2 w.heap.size 73 (.slice none 0 0) := (hb2.block _ hb0.lt).trans hb0
      have hb12 : Boxed W2 (w.heap.size + 1) 51 .nilIface := (hb2.block _ hb1.lt).trans hb1
      have hlt2 := hbl2.lt
      obtain ⟨W3, hW3⟩ : ∃ X, X = W2.alloc (.cells #[.string ⟨#[]⟩, .string ⟨#[]⟩, .int .i64 0] 75) := ⟨_, rfl⟩
      have y0 : Boxed W3 w.heap.size 73 (.slice none 0 0) := by rw [hW3]; exact hb02.alloc _
      have y1 : Boxed W3 (w.heap.size + 1) 51 .nilIface := by rw [hW3]; exact hb12.alloc _
      have y2 : Boxed W3 (w.heap.size + 1 + 1) 73 (.slice adv nv cv) := by rw [hW3]; exact hbl2.alloc _
      have hb3 : Below W.heap.size W W3 := by rw [hW3]; exact hb2.alloc hb2.size _
      have HW3 := hidE hW3
      have HB3 := hidE hb3
      have HY := hidE (And.intro y0 (And.intro y1 y2))
      have c0 := y0.cell
      have f0 := y0.frozen
      have c1 := y1.cell
      have f1 := y1.frozen
      have c2 := y2.cell
      clear hcl hbl2 hb02 hb12 y0 y1 y2 hW3 hb2 hb3 hlt2 c2
      gi_wp2_with fail
      rw [← HW3.out]
      have c2 := HY.out.2.2.cell
      have k0 : w.heap.size < W3.heap.size := HY.out.1.lt
      have k1 : w.heap.size + 1 < W3.heap.size := HY.out.2.1.lt
      have k2 : w.heap.size + 1 + 1 < W3.heap.size := HY.out.2.2.lt
      have m0 : w.heap.size ≠ W3.heap.size := by omega
      have m1 : w.heap.size + 1 ≠ W3.heap.size := by omega
      have m2 : w.heap.size + 1 + 1 ≠ W3.heap.size := by omega
      have HXX : Hid (KeepsFrom w1.heap.size W ((((W3.setCell ⟨w.heap.size, 0, none⟩ (.slice none 0 0)).setCell ⟨w.heap.size + 1, 0, none⟩ (.iface 187 (.pointer (some ⟨W3.heap.size, 0, none⟩)))).alloc (.cells #[.int .i64 3, .int .i64 nv] 188)).drew) ∧
          ParX w (pre ++ [x]) ((((W3.setCell ⟨w.heap.size, 0, none⟩ (.slice none 0 0)).setCell ⟨w.heap.size + 1, 0, none⟩ (.iface 187 (.pointer (some ⟨W3.heap.size, 0, none⟩)))).alloc (.cells #[.int .i64 3, .int .i64 nv] 188)).drew)) := by
        obtain ⟨X1, hX1⟩ : ∃ X, X = (W3.setCell ⟨w.heap.size, 0, none⟩ (.slice none 0 0)).setCell ⟨w.heap.size + 1, 0, none⟩ (.iface 187 (.pointer (some ⟨W3.heap.size, 0, none⟩))) := ⟨_, rfl⟩
        have s1 : X1.heap.size = W3.heap.size := by rw [hX1]; simp
        have hsW := HB3.out.size
        have hsw := hbw.size
        rw [← hX1]
        have e0 : Boxed X1 w.heap.size 73 (.slice none 0 0) := by
          rw [hX1]
          exact (Below.heap_setCell _ _ _ _ (by show w.heap.size ≠ w.heap.size + 1; omega)).trans (HY.out.1.set _)
        have e1 : Boxed X1 (w.heap.size + 1) 51 (.iface 187 (.pointer (some ⟨W3.heap.size, 0, none⟩))) := by
          rw [hX1]
          have h1 : Boxed (W3.setCell ⟨w.heap.size, 0, none⟩ (.slice none 0 0)) (w.heap.size + 1) 51 .nilIface := (Below.heap_setCell _ _ _ _ (by show w.heap.size + 1 ≠ w.heap.size; omega)).trans HY.out.2.1
          exact h1.set _
        have bX : Below w.heap.size w X1 := by
          rw [hX1]
          exact ((hbw.trans (HB3.out.mono hbw.size)).setCell (p := ⟨w.heap.size, 0, none⟩) (Nat.le_refl _) _).setCell (p := ⟨w.heap.size + 1, 0, none⟩) (by show w.heap.size ≤ w.heap.size + 1; omega) _
        obtain ⟨X2, hX2⟩ : ∃ X, X = (X1.alloc (.cells #[.int .i64 3, .int .i64 nv] 188)).drew := ⟨_, rfl⟩
        have b12 : Below X1.heap.size X1 X2 := by rw [hX2]; exact ((Below.refl _ _).alloc (Nat.le_refl _) _).trans ((below_drew _).mono (by simp))
        have at0 : X2.cell? ⟨W3.heap.size, 0, none⟩ = some (.int .i64 3) ∧ X2.cell? ⟨W3.heap.size, 1, none⟩ = some (.int .i64 nv) := by
          rw [hX2, ← s1]
          constructor
          · show (X1.alloc _).cell? _ = _; simp
          · show (X1.alloc _).cell? _ = _; simp
        rw [← hX2]
        have hnv : nv = ps.length := by
          rcases own_form hown with ⟨e, e2, _⟩ | ⟨g, cp, e, _⟩
          · simp only [Value.slice.injEq] at e; omega
          · simp only [Value.slice.injEq] at e; exact e.2.1
        refine ⟨⟨by have := b12.size; omega, fun k o hk1 hk2 _ => ?_⟩, ps, x, W3.heap.size, hv, by rw [hpre], hy, (b12.block _ e0.lt).trans e0, (b12.block _ e1.lt).trans e1, by omega, at0.1, by rw [← hnv]; exact at0.2, bX.trans (b12.mono bX.size)⟩
        have hkl := (Array.getElem?_eq_some_iff.1 hk2).1
        rw [b12.block k (by omega), hX1, Below.heap_setCell _ _ _ _ (by show k ≠ w.heap.size + 1; omega), Below.heap_setCell _ _ _ _ (by show k ≠ w.heap.size; omega), HB3.out.block k hkl]
        exact hk2
      gi_region
      all_goals gi_wp2
      all_goals exact HXX.out
  case done =>
    rintro D W hD ⟨ps, v, hv, hpre, hbl, hown, hb0, hb1, hbw, hBW⟩ hK
    obtain ⟨adv, nv, cv, hvv⟩ := own_lenL hown
    subst hvv
    have c0 := hb0.cell
    have f0 := hb0.frozen
    have c1 := hb1.cell
    have f1 := hb1.frozen
    have c2 := hbl.cell
    have hD0 : D ≠ w.heap.size := by omega
    have hD1 : D ≠ w.heap.size + 1 := by omega
    obtain ⟨W', hW'⟩ : ∃ X, X = (W.setCell ⟨w.heap.size, 0, none⟩ (.slice adv nv cv)).setCell ⟨w.heap.size + 1, 0, none⟩ .nilIface := ⟨_, rfl⟩
    have hK' : W'.heap[D]? = some (.deferred (some [])) := by rw [hW', Below.heap_setCell _ _ _ D (by show D ≠ w.heap.size + 1; exact hD1), Below.heap_setCell _ _ _ D (by show D ≠ w.heap.size; exact hD0)]; exact hK
    have z0 : W'.cell? ⟨w.heap.size, 0, none⟩ = some (.slice adv nv cv) := by rw [hW']; exact (setP_other (by simp)).trans (setP_same c0)
    have z1 : W'.cell? ⟨w.heap.size + 1, 0, none⟩ = some .nilIface := by rw [hW']; exact setP_same ((setP_other (by simp)).trans c1)
    have hown' : W'.ownsRow w.heap.size 75 3 (.slice adv nv cv) ps.length (ps.flatMap pstC) := by
      rw [hW']
      refine own_below (ownsRow_setCell_other (ownsRow_setCell_other hown ?_ _) ?_ _) (Below.refl _ _) (by omega)
      · exact fun e => by have h1 : w1.heap.size ≤ w.heap.size := (hown.lt _ e).1; omega
      · exact fun e => by have h1 : w1.heap.size ≤ w.heap.size + 1 := (hown.lt _ e).1; omega
    have hbw' : Below w.heap.size w W' := by rw [hW']; exact (hbw.setCell (p := ⟨w.heap.size, 0, none⟩) (Nat.le_refl _) _).setCell (p := ⟨w.heap.size + 1, 0, none⟩) (by show w.heap.size ≤ w.heap.size + 1; omega) _
    have HW' := hidE hW'
    have HF := hidE (And.intro hK' (And.intro z0 (And.intro z1 (And.intro hown' hbw'))))
    clear hK' z0 z1 hown' hbw' hW'
    gi_wp2
    rw [← HW'.out]
    obtain ⟨hK', z0, z1, hown', hbw'⟩ := HF.out
    refine ⟨by simp, .inl ⟨_, _, rfl, run_takeDeferred hK', ?_⟩⟩
    have y0 : (W'.putObj D (.deferred none)).cell? ⟨w.heap.size, 0, none⟩ = some (.slice adv nv cv) := (World.cell?_of_block (a := ⟨w.heap.size, 0, none⟩) (World.putObj_heap_other (by show w.heap.size ≠ D; omega))).trans z0
    have y1 : (W'.putObj D (.deferred none)).cell? ⟨w.heap.size + 1, 0, none⟩ = some .nilIface := (World.cell?_of_block (a := ⟨w.heap.size + 1, 0, none⟩) (World.putObj_heap_other (by show w.heap.size + 1 ≠ D; omega))).trans z1
    refine ⟨.tuple #[.slice adv nv cv, .nilIface], by simp [results, Tryz.results31, go_sem, y0, y1], .inl ⟨ps, .slice adv nv cv, hv, hpre, rfl, ownsRow_putObj hown' _ hK' rfl, ?_⟩⟩
    exact hbw'.grown (grownBy_putObj' W' D _) hbw'.size (fun k e => by cases e; omega)
  case stop =>
    rintro D pre W hD hpx ⟨ps, bad, b, hv, hpre, hbad, hb0, hb1, hbb, hc0, hc1, hbw⟩ hK
    gi_wp2
    refine ⟨by simp, .inl ⟨_, _, rfl, run_takeDeferred hK, ?_⟩⟩
    have y0 : (W.putObj D (.deferred none)).cell? ⟨w.heap.size, 0, none⟩ = some (.slice none 0 0) := (World.cell?_of_block (a := ⟨w.heap.size, 0, none⟩) (World.putObj_heap_other (by show w.heap.size ≠ D; omega))).trans hb0.cell
    have y1 : (W.putObj D (.deferred none)).cell? ⟨w.heap.size + 1, 0, none⟩ = some (.iface 187 (.pointer (some ⟨b, 0, none⟩))) := (World.cell?_of_block (a := ⟨w.heap.size + 1, 0, none⟩) (World.putObj_heap_other (by show w.heap.size + 1 ≠ D; omega))).trans hb1.cell
    have hbD : b ≠ D := fun e => by
      obtain ⟨o, ho, hc⟩ := cells_of_cell hc0
      simp only [e] at ho
      rw [hK] at ho
      cases ho
      cases hc
    obtain ⟨rest, hrest⟩ := hpx
    refine ⟨.tuple #[.slice none 0 0, .iface 187 (.pointer (some ⟨b, 0, none⟩))], by simp [results, Tryz.results31, go_sem, y0, y1], .inr ⟨ps, bad, rest, b, hv, by rw [← hrest, hpre]; simp, hbad, rfl, by omega, ?_, ?_, ?_⟩⟩
    · exact (World.cell?_of_block (a := ⟨b, 0, none⟩) (World.putObj_heap_other hbD)).trans hc0
    · exact (World.cell?_of_block (a := ⟨b, 1, none⟩) (World.putObj_heap_other hbD)).trans hc1
    · exact hbw.grown (grownBy_putObj' W D _) hbw.size (fun k e => by cases e; omega)
end Go.Proofs.YtcfgacdcgljbaaaGreatDoor
