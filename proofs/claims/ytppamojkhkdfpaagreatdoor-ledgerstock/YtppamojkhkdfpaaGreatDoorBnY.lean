/- The walks of (*strings.Builder).copyCheck and WriteString. The walk of ledger.Post. Postings that lie in a slice. The walk of ledger.Print. Two amounts as texts. The walk of tallymankeep.posted. -/
import Derived.Test.YtppamojkhkdfpaaGreatDoorBnA
import Derived.Test.YtppamojkhkdfpaaGreatDoorShB
import Derived.Lib.Builder
import Derived.Lib.AppendStr
import Derived.Laws.Externs
import Derived.Test.YtppamojkhkdfpaaGreatDoorBnW
import Derived.Test.YtppamojkhkdfpaaGreatDoorBnD
import Derived.Test.YtppamojkhkdfpaaGreatDoorBnX
import Derived.Test.YtppamojkhkdfpaaGreatDoorBnB
namespace Go.Proofs.YtppamojkhkdfpaaGreatDoor
open Go.RowKit
theorem bld_size : (Tryz.prog.info? 154).map (·.size) = some 2 := by kernel_rfl
theorem bld_lies : liesAt Tryz.prog Tryz.prog.depth 154 (2 / Tryz.prog.cellsOf 154) 0 154 1 = true := by kernel_rfl
theorem byte_info : (Tryz.prog.info? 5).map (fun i => (i.zero, i.size, i.bytes)) = some (some (.int .u8 0), 1, 1) := by kernel_rfl
set_option maxHeartbeats 1000000 in
set_option maxRecDepth 100000 in
theorem check_used (b : Nat) (w : World) (h0 : w.cell? ⟨b, 0, none⟩ = some (.pointer (some ⟨b, 0, none⟩))) :
    Calls Tryz.prog 103 #[.pointer (some ⟨b, 0, none⟩)] w fun e w' => e = .returned (.tuple #[]) ∧ w' = w := by
  obtain ⟨j, hj, _⟩ := Option.map_eq_some_iff.1 bld_size
  go_enter Tryz.func103, Tryz.ntmps103
  go_wp2
  rw [Lib.run_neq_ptr_same w _ Tryz.underlying151 hj]
  go_wp2
  go_end0
  exact ⟨rfl, rfl⟩
set_option maxHeartbeats 1000000 in
set_option maxRecDepth 100000 in
theorem check_fresh (b : Nat) (w : World) (h0 : w.cell? ⟨b, 0, none⟩ = some (.pointer none)) (hsh : w.shape? b = some (154, 2)) (hfz : w.frozen? ⟨b, 0, none⟩ = false) :
    Calls Tryz.prog 103 #[.pointer (some ⟨b, 0, none⟩)] w fun e w' => e = .returned (.tuple #[]) ∧ w' = w.setCell ⟨b, 0, none⟩ (.pointer (some ⟨b, 0, none⟩)) := by
  obtain ⟨j, hj, hjs⟩ := Option.map_eq_some_iff.1 bld_size
  go_enter Tryz.func103, Tryz.ntmps103
  go_wp2
  rw [Lib.run_to_unsafe w ⟨b, 0, none⟩ Tryz.underlying151 Tryz.underlying209 hj (by rw [hjs]; decide) hsh (Nat.zero_lt_succ 1)]
  simp only [Result.andThen]
  rw [Oper.upon_value]
  go_wp2
  rw [run_callFunc_extern Tryz.func152 (by kernel_rfl) (by kernel_rfl) (by kernel_rfl) (e := Extern.AbiNoEscape.same) (by kernel_rfl)]
  rw [Lib.run_noEscape]
  simp only [Result.andThen]
  rw [Oper.upon_value]
  go_wp2
  rw [Lib.run_from_unsafe w ⟨b, 0, none⟩ Tryz.underlying209 Tryz.underlying151 hj hsh bld_lies]
  simp only [Result.andThen]
  rw [Oper.upon_value]
  go_wp2
  go_end0
  exact ⟨rfl, rfl⟩
theorem check_any (B b : Nat) (bs : List Value) (w : World) (h : Lib.IsBuilder 154 5 B b bs w) :
    Calls Tryz.prog 103 #[.pointer (some ⟨b, 0, none⟩)] w fun e w' => e = .returned (.tuple #[]) ∧ (Lib.BuilderAt 154 5 B b (.pointer (some ⟨b, 0, none⟩)) bs w' ∧ Below B w w') := by
  rcases h with h | h
  · refine (check_fresh b w h.cell0 h.shape h.frozen0).mono ?_
    rintro e w' ⟨rfl, rfl⟩
    exact ⟨rfl, h.used _, (Below.refl B w).setCell (p := ⟨b, 0, none⟩) h.1 _⟩
  · refine (check_used b w h.cell0).mono ?_
    rintro e w' ⟨rfl, rfl⟩
    exact ⟨rfl, h, Below.refl B _⟩
set_option maxHeartbeats 1000000 in
set_option maxRecDepth 100000 in
theorem bwrite_any (B b : Nat) (bs : List Value) (s : ByteArray) (w : World) (h : Lib.IsBuilder 154 5 B b bs w) (hlen : bs.length + s.size ≤ 140737488355328) (hBw : B ≤ w.heap.size) :
    Calls Tryz.prog 64 #[.pointer (some ⟨b, 0, none⟩), .string s] w fun e w' => e = .returned (.tuple #[.int .i64 s.size, .nilIface]) ∧ (Lib.BuilderAt 154 5 B b (.pointer (some ⟨b, 0, none⟩)) (bs ++ Lib.strCells s) w' ∧ Below B w w') := by
  obtain ⟨i0, hi, hz0, hz1, hz2⟩ := info_parts byte_info
  go_enter Tryz.func64, Tryz.ntmps64
  go_wp2_with fail
  refine (check_any B b bs _ h).mono ?_
  rintro e w1 ⟨rfl, h1, hb1⟩
  obtain ⟨hB, v, hbk, hown, hne⟩ := h1
  have c0 : w1.cell? ⟨b, 0, none⟩ = some (.pointer (some ⟨b, 0, none⟩)) := by rw [Lib.cell_of_heap hbk]; rfl
  have c1 : w1.cell? ⟨b, 1, none⟩ = some v := by rw [Lib.cell_of_heap hbk]; rfl
  go_wp2_with (at_builtin; refine Lib.wpList_append_own_string _ rfl _ _ 152 9 rfl B 5 i0 Tryz.underlying152 Tryz.underlying9 hi hz0 hz1 hz2 _ _ _ rfl hown s rfl ?c3 ?c4 ?c5 ?_)
  case c3 => unfold maxLen; omega
  case c4 => omega
  case c5 => have := hb1.size; omega
  intro v' w2 hown' hgrow _
  have hlt : b < w1.heap.size := Lib.BuilderAt.lt ⟨hB, v, hbk, hown, hne⟩
  have hb2 : w2.heap[b]? = some (.cells #[.pointer (some ⟨b, 0, none⟩), v] 154 (0, 0)) := by
    rw [hgrow.block b hlt (fun e => hne e.symm)]
    exact hbk
  have d0 : w2.cell? ⟨b, 0, none⟩ = some (.pointer (some ⟨b, 0, none⟩)) := by rw [Lib.cell_of_heap hb2]; rfl
  have d1 : w2.cell? ⟨b, 1, none⟩ = some v := by rw [Lib.cell_of_heap hb2]; rfl
  have f1 : w2.frozen? ⟨b, 1, none⟩ = false := Lib.frozen_of_heap hb2 1
  obtain ⟨ao, n', cap, rfl⟩ : ∃ ao n' cap, v' = .slice ao n' cap := by
    rcases hown'.2 with ⟨hv, _⟩ | ⟨g, cap, cur, hv, _⟩
    · exact ⟨_, _, _, hv⟩
    · exact ⟨_, _, _, hv⟩
  go_wp2
  go_ret2
  refine ⟨rfl, ?_, ?_⟩
  · exact Lib.BuilderAt.put (T := 154) (e := 5) hB hb2 (bs' := bs ++ Lib.strCells s) (by simpa [Lib.strCells_length] using hown') (by decide)
  · exact (hb1.grown hgrow (by have := hb1.size; omega) (fun k hk => (hown.lt k hk).1)).setCell (p := ⟨b, 1, none⟩) hB _
end Go.Proofs.YtppamojkhkdfpaaGreatDoor
namespace Go.Proofs.YtppamojkhkdfpaaGreatDoor
open Go.RowKit
def pstZ : Value := .agg #[.string ⟨#[]⟩, .string ⟨#[]⟩, .int .i64 0]
theorem Tryz.infoPst : (Tryz.prog.info? 75).map (fun i => (i.zero, i.size, i.bytes)) = some (some pstZ, 3, 40) := by kernel_rfl
def fivesV (f : Fig) : Value := .agg #[.string aStock, .string aSupply, .int .i64 f.inn, .string aSold, .string aStock, .int .i64 f.out, .string aLoss, .string aStock, .int .i64 f.loss, .string aStock, .string aGain, .int .i64 f.gain, .string aLate, .string aSupply, .int .i64 f.late]
theorem ixp0 (a0 a1 a2 a3 a4 a5 a6 a7 a8 a9 a10 a11 a12 a13 a14 : Value) (w : World) : (Instr.index 148 (.agg #[a0, a1, a2, a3, a4, a5, a6, a7, a8, a9, a10, a11, a12, a13, a14]) (.int .i64 0)).run Tryz.prog w = .ok (.agg #[a0, a1, a2]) w := by kernel_rfl
theorem ixp1 (a0 a1 a2 a3 a4 a5 a6 a7 a8 a9 a10 a11 a12 a13 a14 : Value) (w : World) : (Instr.index 148 (.agg #[a0, a1, a2, a3, a4, a5, a6, a7, a8, a9, a10, a11, a12, a13, a14]) (.int .i64 1)).run Tryz.prog w = .ok (.agg #[a3, a4, a5]) w := by kernel_rfl
theorem ixp2 (a0 a1 a2 a3 a4 a5 a6 a7 a8 a9 a10 a11 a12 a13 a14 : Value) (w : World) : (Instr.index 148 (.agg #[a0, a1, a2, a3, a4, a5, a6, a7, a8, a9, a10, a11, a12, a13, a14]) (.int .i64 2)).run Tryz.prog w = .ok (.agg #[a6, a7, a8]) w := by kernel_rfl
theorem ixp3 (a0 a1 a2 a3 a4 a5 a6 a7 a8 a9 a10 a11 a12 a13 a14 : Value) (w : World) : (Instr.index 148 (.agg #[a0, a1, a2, a3, a4, a5, a6, a7, a8, a9, a10, a11, a12, a13, a14]) (.int .i64 3)).run Tryz.prog w = .ok (.agg #[a9, a10, a11]) w := by kernel_rfl
theorem ixp4 (a0 a1 a2 a3 a4 a5 a6 a7 a8 a9 a10 a11 a12 a13 a14 : Value) (w : World) : (Instr.index 148 (.agg #[a0, a1, a2, a3, a4, a5, a6, a7, a8, a9, a10, a11, a12, a13, a14]) (.int .i64 4)).run Tryz.prog w = .ok (.agg #[a12, a13, a14]) w := by kernel_rfl
theorem index_fives (f : Fig) (k : Nat) (hk : k < (fives f).length) (w : World) : (Instr.index 148 (fivesV f) (.int .i64 k)).run Tryz.prog w = .ok (pstV (fives f)[k]) w := by
  have h5 : k < 5 := hk
  obtain rfl | rfl | rfl | rfl | rfl : k = 0 ∨ k = 1 ∨ k = 2 ∨ k = 3 ∨ k = 4 := by omega
  · exact ixp0 _ _ _ _ _ _ _ _ _ _ _ _ _ _ _ w
  · exact ixp1 _ _ _ _ _ _ _ _ _ _ _ _ _ _ _ w
  · exact ixp2 _ _ _ _ _ _ _ _ _ _ _ _ _ _ _ w
  · exact ixp3 _ _ _ _ _ _ _ _ _ _ _ _ _ _ _ w
  · exact ixp4 _ _ _ _ _ _ _ _ _ _ _ _ _ _ _ w
theorem take_flat {l : List Pst} {k : Nat} (hk : k < l.length) : (l.take (k + 1)).flatMap post1 = (l.take k).flatMap post1 ++ post1 l[k] := by
  rw [List.take_succ_eq_append_getElem hk, List.flatMap_append]
  simp
theorem pst_new (w : World) (p : Pst) (j : Nat) (u : Value) (h : (pstC p)[j]? = some u) : (w.alloc (.cells #[.string p.deb, .string p.cre, .int .i64 p.amt] 75)).cell? ((⟨w.heap.size, 0, none⟩ : Addr).add j) = some u := by
  have hj : j < 3 := by
    have := (List.getElem?_eq_some_iff.1 h).1
    rwa [pstC_len] at this
  obtain rfl | rfl | rfl : j = 0 ∨ j = 1 ∨ j = 2 := by omega
  all_goals simp [pstC] at h; subst h; simp [Addr.add]
theorem pstC_one (p : Pst) : ∀ u ∈ pstC p, u.oneCell' = true := by
  intro u hu
  simp only [pstC, List.mem_cons, List.not_mem_nil, or_false] at hu
  rcases hu with rfl | rfl | rfl <;> rfl
theorem own_lenL {w : World} {B : Nat} {T : TypeId} {m n : Nat} {v : Value} {xs : List Value} (h : w.ownsRow B T m v n xs) : ∃ ad n' cap, v = .slice ad n' cap := by
  rcases h.2 with ⟨rfl, _⟩ | ⟨g, cap, cur, rfl, _⟩
  · exact ⟨_, _, _, rfl⟩
  · exact ⟨_, _, _, rfl⟩
set_option maxRecDepth 20000 in
set_option maxHeartbeats 4000000 in
theorem post_any (f : Fig) (w : World) : Calls Tryz.prog 23 #[figV f] w fun r w' => ∃ v, r = .returned v ∧ w'.ownsRow w.heap.size 75 3 v (postL f).length ((postL f).flatMap pstC) ∧ Below w.heap.size w w' := by
  obtain ⟨i0, hi, hz0, hz1, hz2⟩ := info_parts Tryz.infoPst
  have hix := index_fives f
  have h5 : (fives f).length = 5 := rfl
  obtain ⟨f1, f2, f3, f4, f5⟩ := f
  unfold figV
  unfold fivesV pstV at hix
  unfold aStock aSupply aSold aLoss aGain aLate at hix
  simp only at hix
  go_enter Tryz.func23, Tryz.ntmps23
  go_wp2_with fail
  obtain ⟨w0, hw0⟩ : ∃ W, W = ((w.alloc (.cells #[.int .i64 f1, .int .i64 f2, .int .i64 f3, .int .i64 f4, .int .i64 f5] 38)).alloc (.cells #[.string ⟨#[115, 116, 111, 99, 107]⟩, .string ⟨#[115, 117, 112, 112, 108, 121]⟩, .int .i64 f1, .string ⟨#[115, 111, 108, 100]⟩, .string ⟨#[115, 116, 111, 99, 107]⟩, .int .i64 f2, .string ⟨#[108, 111, 115, 115]⟩, .string ⟨#[115, 116, 111, 99, 107]⟩, .int .i64 f3, .string ⟨#[115, 116, 111, 99, 107]⟩, .string ⟨#[103, 97, 105, 110]⟩, .int .i64 f4, .string ⟨#[108, 97, 116, 101]⟩, .string ⟨#[115, 117, 112, 112, 108, 121]⟩, .int .i64 f5] 148)) := ⟨_, rfl⟩
  rw [← hw0]
  have hb0 : Below w.heap.size w w0 := by rw [hw0]; exact ((Below.refl _ _).alloc (Nat.le_refl _) _).alloc (by simp) _
  have HB0 : Hid (Below w.heap.size w w0) := hb0
  clear hw0 hb0
  obtain ⟨ff, hff⟩ : ∃ x, x = fives ⟨f1, f2, f3, f4, f5⟩ := ⟨_, rfl⟩
  rw [← hff] at h5 hix
  have HFF : Hid (ff = fives ⟨f1, f2, f3, f4, f5⟩) := hff
  clear hff
  go_loopw [4, 24] (fun v i wr => ∃ k : Nat, k ≤ 5 ∧ i = .int .i64 k ∧ wr.ownsRow w.heap.size 75 3 v ((ff.take k).flatMap post1).length (((ff.take k).flatMap post1).flatMap pstC) ∧ Below w.heap.size w wr) (fun _ i _ => 5 - (intOf i).toNat)
  case atStart => exact ⟨0, by omega, rfl, World.ownsRow_nil _ _ _ _, HB0.out⟩
  case round =>
    obtain ⟨k, hk, rfl, hown, hb⟩ := hrel
    by_cases hlt : k < 5
    · have hkl : k < ff.length := by omega
      have hx := hix k hkl wr
      have htk := take_flat hkl
      have hll : ((ff.take k).flatMap post1).length ≤ 5 := by have := postf_len (ff.take k); rw [List.length_take] at this; omega
      obtain ⟨⟨d, c, n⟩, hp⟩ : ∃ p, p = ff[k] := ⟨_, rfl⟩
      rw [← hp] at hx htk
      simp only at hx
      have HTK : Hid ((ff.take (k + 1)).flatMap post1 = (ff.take k).flatMap post1 ++ post1 ⟨d, c, n⟩) := htk
      obtain ⟨qs, hqs⟩ : ∃ q, q = (ff.take k).flatMap post1 := ⟨_, rfl⟩
      rw [← hqs] at hown hll HTK
      clear htk hp hqs hix
      obtain ⟨ad, nn, cp, hv⟩ := own_lenL hown
      subst hv
      obtain ⟨W1, hW1⟩ : ∃ W, W = wr.alloc (.cells #[.string d, .string c, .int .i64 n] 75) := ⟨_, rfl⟩
      have hb1 : Below wr.heap.size wr W1 := by rw [hW1]; exact (Below.refl _ _).alloc (Nat.le_refl _) _
      have HB1 : Hid (Below wr.heap.size wr W1) := hb1
      have hs1 : W1.heap.size = wr.heap.size + 1 := by rw [hW1]; simp
      have hsz := hb.size
      have HB : Hid (Below w.heap.size w wr) := hb
      have HW1 : Hid (W1 = wr.alloc (.cells #[.string d, .string c, .int .i64 n] 75)) := hW1
      have hown1 : W1.ownsRow w.heap.size 75 3 (.slice ad nn cp) qs.length (qs.flatMap pstC) := by rw [hW1]; exact hown.alloc _
      clear hb hb1 hW1
      by_cases c1 : 0 < n
      · have HPO : Hid (post1 ⟨d, c, n⟩ = [⟨d, c, n⟩]) := by show _ = _; simp [post1, c1]
        go_wp2_with (first
          | (at_builtin; refine wpList_append_new _ rfl _ _ 73 rfl w.heap.size 75 i0 pstZ 3 40 Tryz.underlying73 hi hz0 hz1 hz2 rfl (by decide) (.slice ad nn cp) _ _ rfl ((hown.alloc _).alloc _) ⟨wr.heap.size + 1, 0, none⟩ 1 1 (pstC ⟨d, c, n⟩) rfl rfl ?d1 ?d2 ?d3 ?d4 ?d5 (by omega) ?_)
          | go_in)
        case d1 => first | (simpa using pst_new (wr.alloc (.cells #[.string d, .string c, .int .i64 n] 75)) ⟨d, c, n⟩) | (intro j u h; simpa [pstC] using h)
        case d2 => exact pstC_one _
        case d3 => unfold maxLen; omega
        case d4 => omega
        case d5 => first | omega | (simp; omega)
        intro v' w2 hown2 hg2 hf2
        obtain ⟨ad2, nn2, cp2, hv2⟩ := own_lenL hown2
        subst hv2
        have HB2 : Hid (Below w.heap.size w w2) := by
          have b1 : Below w.heap.size w ((wr.alloc (.cells #[.string d, .string c, .int .i64 n] 75)).alloc (.cells #[.string d, .string c, .int .i64 n] 75)) := (HB.out.alloc hsz _).alloc (by simp; omega) _
          exact b1.grown hg2 b1.size (fun j hj => (hown.lt j hj).1)
        have HO2 : Hid (w2.ownsRow w.heap.size 75 3 (.slice ad2 nn2 cp2) (qs ++ post1 ⟨d, c, n⟩).length ((qs ++ post1 ⟨d, c, n⟩).flatMap pstC)) := by
          have e := HPO.out
          show w2.ownsRow _ _ _ _ _ _
          rw [e, List.length_append, List.flatMap_append]
          simpa using hown2
        clear hown2 hg2 hf2 hown hown1
        go_wp2
        go_roundw
        case rel =>
          refine ⟨k + 1, by omega, by go_num, ?_, HB2.out⟩
          rw [HTK.out]
          exact HO2.out
        case measure => simp [intOf]; omega
      · by_cases c2 : n < 0
        · have HPO : Hid (post1 ⟨d, c, n⟩ = [⟨c, d, wrap64 (-n)⟩]) := by show _ = _; simp [post1, c1, c2]
          go_wp2_with (first
            | (at_builtin; refine wpList_append_new _ rfl _ _ 73 rfl w.heap.size 75 i0 pstZ 3 40 Tryz.underlying73 hi hz0 hz1 hz2 rfl (by decide) (.slice ad nn cp) _ _ rfl ((hown.alloc _).alloc _) ⟨wr.heap.size + 1, 0, none⟩ 1 1 (pstC ⟨c, d, (wrap64 (-n))⟩) rfl rfl ?d1 ?d2 ?d3 ?d4 ?d5 (by omega) ?_)
            | go_in)
          case d1 => first | (simpa using pst_new (wr.alloc (.cells #[.string d, .string c, .int .i64 n] 75)) ⟨c, d, (wrap64 (-n))⟩) | (intro j u h; simpa [pstC] using h)
          case d2 => exact pstC_one _
          case d3 => unfold maxLen; omega
          case d4 => omega
          case d5 => first | omega | (simp; omega)
          intro v' w2 hown2 hg2 hf2
          obtain ⟨ad2, nn2, cp2, hv2⟩ := own_lenL hown2
          subst hv2
          have HB2 : Hid (Below w.heap.size w w2) := by
            have b1 : Below w.heap.size w ((wr.alloc (.cells #[.string d, .string c, .int .i64 n] 75)).alloc (.cells #[.string c, .string d, .int .i64 (wrap64 (-n))] 75)) := (HB.out.alloc hsz _).alloc (by simp; omega) _
            exact b1.grown hg2 b1.size (fun j hj => (hown.lt j hj).1)
          have HO2 : Hid (w2.ownsRow w.heap.size 75 3 (.slice ad2 nn2 cp2) (qs ++ post1 ⟨d, c, n⟩).length ((qs ++ post1 ⟨d, c, n⟩).flatMap pstC)) := by
            have e := HPO.out
            show w2.ownsRow _ _ _ _ _ _
            rw [e, List.length_append, List.flatMap_append]
            simpa using hown2
          clear hown2 hg2 hf2 hown hown1
          go_wp2
          go_roundw
          case rel =>
            refine ⟨k + 1, by omega, by go_num, ?_, HB2.out⟩
            rw [HTK.out]
            exact HO2.out
          case measure => simp [intOf]; omega
        · have HO2 : Hid (W1.ownsRow w.heap.size 75 3 (.slice ad nn cp) (qs ++ post1 ⟨d, c, n⟩).length ((qs ++ post1 ⟨d, c, n⟩).flatMap pstC)) := by
            have e : post1 ⟨d, c, n⟩ = [] := by unfold post1; rw [if_neg c1, if_neg c2]
            show W1.ownsRow _ _ _ _ _ _
            rw [e, List.append_nil]
            exact hown1
          have HB2 : Hid (Below w.heap.size w W1) := HB.out.trans (HB1.out.mono hsz)
          clear hown hown1
          go_wp2
          rw [← HW1.out]
          go_roundw
          case rel =>
            refine ⟨k + 1, by omega, by go_num, ?_, HB2.out⟩
            rw [HTK.out]
            exact HO2.out
          case measure => simp [intOf]; omega
    · have hk5 : k = 5 := by omega
      subst hk5
      have e : ff.take 5 = ff := List.take_of_length_le (by omega)
      rw [e, HFF.out] at hown
      obtain ⟨ad, nn, cp, hv⟩ := own_lenL hown
      subst hv
      have HO : Hid (wr.ownsRow w.heap.size 75 3 (.slice ad nn cp) (postL ⟨f1, f2, f3, f4, f5⟩).length ((postL ⟨f1, f2, f3, f4, f5⟩).flatMap pstC)) := hown
      have HB : Hid (Below w.heap.size w wr) := hb
      clear e hown hb
      go_wp2
      go_ret
      exact ⟨_, rfl, HO.out, HB.out⟩
end Go.Proofs.YtppamojkhkdfpaaGreatDoor
namespace Go.Proofs.YtppamojkhkdfpaaGreatDoor
open Go.RowKit
/-- Postings that lie in a slice. -/
def PstsAt (w : World) (v : Value) (ps : List Pst) : Prop :=
  (v = .slice none 0 0 ∧ ps = []) ∨ ∃ g o cap, v = .slice (some ⟨g, o, none⟩) ps.length cap ∧ g < w.heap.size ∧ ∀ (k j : Nat) (hk : k < ps.length), j < 3 → w.cell? ⟨g, o + k * 3 + j, none⟩ = (pstC ps[k])[j]?
theorem PstsAt.below {w w' : World} {v : Value} {ps : List Pst} (h : PstsAt w v ps) (hb : Below w.heap.size w w') : PstsAt w' v ps := by
  rcases h with h | ⟨g, o, cap, e, hg, hc⟩
  · exact Or.inl h
  · exact Or.inr ⟨g, o, cap, e, Nat.lt_of_lt_of_le hg hb.size, fun k j hk hj => (hb.cell (p := ⟨g, o + k * 3 + j, none⟩) hg).trans (hc k j hk hj)⟩
theorem PstsAt.block {w : World} {v : Value} {ps : List Pst} (h : PstsAt w v ps) : ∀ k, v.ownBlock = some k → k < w.heap.size := by
  rcases h with ⟨rfl, _⟩ | ⟨g, o, cap, rfl, hg, _⟩
  · intro k hk; cases hk
  · intro k hk; simp [Value.ownBlock] at hk; omega
theorem PstsAt.same {w w' : World} {v : Value} {ps : List Pst} (h : PstsAt w v ps) (hs : w.heap.size ≤ w'.heap.size) (e : ∀ k, v.ownBlock = some k → w'.heap[k]? = w.heap[k]?) : PstsAt w' v ps := by
  rcases h with h | ⟨g, o, cap, rfl, hg, hc⟩
  · exact Or.inl h
  · exact Or.inr ⟨g, o, cap, rfl, by omega, fun k j hk hj => (World.cell?_of_block (a := ⟨g, o + k * 3 + j, none⟩) (e g rfl)).trans (hc k j hk hj)⟩
theorem PstsAt.of_own {w : World} {B : Nat} {v : Value} {ps : List Pst} (h : w.ownsRow B 75 3 v ps.length (ps.flatMap pstC)) : PstsAt w v ps := by
  rcases own_form h with ⟨hv, hn, _⟩ | ⟨g, cap, hv, _, hgl, _⟩
  · exact Or.inl ⟨hv, List.length_eq_zero_iff.1 hn⟩
  · subst hv
    exact Or.inr ⟨g, 0, cap, rfl, hgl, fun k j hk hj => by rw [Nat.zero_add]; exact (own_cell pstC_len h k j hk hj).1⟩
theorem below_cellL {w w' : World} {p : Addr} {v : Value} (hb : Below w.heap.size w w') (h : w.cell? p = some v) : w'.cell? p = some v := (hb.cell (World.block_lt_of_cell? _ _ h)).trans h
end Go.Proofs.YtppamojkhkdfpaaGreatDoor
namespace Go.Proofs.YtppamojkhkdfpaaGreatDoor
open Go.RowKit
theorem World_new (w : World) (o : Obj) : (w.alloc o).heap[w.heap.size]? = some o := by
  show (w.heap.push o)[w.heap.size]? = some o
  simp
theorem byteCells_append (a b : List UInt8) : Lib.byteCells (a ++ b) = Lib.byteCells a ++ Lib.byteCells b := by simp [Lib.byteCells]
theorem strCells_byte (s : ByteArray) : Lib.strCells s = Lib.byteCells s.data.toList := rfl
theorem bld_below {B b : Nat} {bs : List Value} {w w' : World} (h : Lib.IsBuilder 154 5 B b bs w) (hb : Below w.heap.size w w') : Lib.IsBuilder 154 5 B b bs w' := by
  have one : ∀ {p : Value}, Lib.BuilderAt 154 5 B b p bs w → Lib.BuilderAt 154 5 B b p bs w' := fun {p} h => by
    have hlt := h.lt
    obtain ⟨hB, v, hbk, hown, hne⟩ := h
    exact ⟨hB, v, (hb.block b hlt).trans hbk, own_below hown hb (Nat.le_refl _), hne⟩
  rcases h with h | h
  · exact Or.inl (one h)
  · exact Or.inr (one h)
set_option maxRecDepth 20000 in
set_option maxHeartbeats 4000000 in
theorem lprint_any (ps : List Pst) (v : Value) (w : World) (h : PstsAt w v ps) (hl : ps.length ≤ 10000) (hs : ∀ p ∈ ps, I64 p.amt ∧ p.deb.size ≤ 1000 ∧ p.cre.size ≤ 1000) :
    Calls Tryz.prog 25 #[v] w fun r w' => r = .returned (.string ⟨(printL ps).toArray⟩) ∧ Below w.heap.size w w' := by
  obtain ⟨ad, nv, cv, hv⟩ : ∃ ad n cap, v = .slice ad n cap ∧ n = ps.length := by
    rcases h with ⟨e, e2⟩ | ⟨g, o, c, e, _⟩
    · exact ⟨none, 0, 0, e, by rw [e2]; rfl⟩
    · exact ⟨_, _, _, e, rfl⟩
  obtain ⟨rfl, hnn⟩ := hv
  subst hnn
  have HS := hidE hs
  have HPA : Hid (PstsAt w (.slice ad ps.length cv) ps) := h
  clear h hs
  go_enter Tryz.func25, Tryz.ntmps25
  go_wp2
  obtain ⟨w0, hw0⟩ : ∃ W, W = w.alloc (.cells #[.pointer none, .slice none 0 0] 154) := ⟨_, rfl⟩
  have hi0 : Lib.IsBuilder 154 5 w.heap.size w.heap.size (Lib.byteCells (printL (ps.take 0))) w0 := by
    rw [hw0]
    refine Or.inl ⟨Nat.le_refl _, .slice none 0 0, World_new w _, ?_, by simp [Value.ownBlock]⟩
    exact World.ownsRow_nil _ _ _ _
  have hb0 : Below w.heap.size w w0 := by rw [hw0]; exact (Below.refl _ _).alloc (Nat.le_refl _) _
  rw [← hw0]
  have HI0 := hidE hi0
  have HB0 := hidE hb0
  clear hi0 hb0 hw0
  go_loopw [8] (fun i wr => ∃ k : Nat, k ≤ ps.length ∧ i = .int .i64 k ∧ Hid (Lib.IsBuilder 154 5 w.heap.size w.heap.size (Lib.byteCells (printL (ps.take k))) wr) ∧ Hid (Below w.heap.size w wr)) (fun i _ => ps.length - (intOf i).toNat)
  case atStart => exact ⟨0, Nat.zero_le _, rfl, HI0, HB0⟩
  case round =>
    obtain ⟨k, hk, rfl, HI, HB⟩ := hrel
    have hsw := HB.out.size
    by_cases hlt : k < ps.length
    · rcases HPA.out.below HB.out with ⟨_, e2⟩ | ⟨g, o, cp, e1, hg, hc⟩
      · rw [e2] at hlt; exact absurd hlt (Nat.not_lt_zero _)
      · simp only [Value.slice.injEq] at e1
        obtain ⟨rfl, _, rfl⟩ := e1
        obtain ⟨x, hx⟩ : ∃ x, x = ps[k] := ⟨_, rfl⟩
        have q0 := hc k 0 hlt (by omega)
        have q1 := hc k 1 hlt (by omega)
        have q2 := hc k 2 hlt (by omega)
        have hxs := HS.out ps[k] (List.getElem_mem hlt)
        have hln := printL_len (ps.take k) (fun p hp => HS.out p (List.mem_of_mem_take hp))
        have htl : (ps.take k).length ≤ 10000 := by rw [List.length_take]; omega
        have HPS : Hid (printL (ps.take (k + 1)) = printL (ps.take k) ++ pline ps[k]) := printL_snoc hlt
        rw [← hx] at q0 q1 q2 hxs HPS
        clear hx hc
        obtain ⟨d, c, m⟩ := x
        simp only [pstC, List.getElem?_cons_zero, List.getElem?_cons_succ, Nat.add_zero] at q0 q1 q2
        simp only at hxs
        have hm0 := hxs.1.1
        have hm1 := hxs.1.2
        have hd := hxs.2.1
        have hcs := hxs.2.2
        have hza := amt_strsize m hm0 hm1
        obtain ⟨ts, hts⟩ : ∃ s, s = strOfNums (amt m) := ⟨_, rfl⟩
        have hPr := print_any m
        rw [← hts] at hza hPr
        have HAS : Hid (ts = strOfNums (amt m)) := hts
        obtain ⟨W1, hW1⟩ : ∃ W, W = wr.alloc (.cells #[.string d, .string c, .int .i64 m] 75) := ⟨_, rfl⟩
        have hb1 : Below wr.heap.size wr W1 := by rw [hW1]; exact (Below.refl _ _).alloc (Nat.le_refl _) _
        have c0 : W1.cell? ⟨wr.heap.size, 0, none⟩ = some (.string d) ∧ W1.cell? ⟨wr.heap.size, 1, none⟩ = some (.string c) ∧ W1.cell? ⟨wr.heap.size, 2, none⟩ = some (.int .i64 m) := by rw [hW1]; simp
        have HW1 : Hid (W1 = wr.alloc (.cells #[.string d, .string c, .int .i64 m] 75)) := hW1
        clear hW1 hxs hts
        go_wp2_with fail
        rw [← HW1.out]
        refine wp_region_turn [(.pure, 0), (.read, 1), (.pure, 4), (.read, 5), (.pure, 8), (.read, 9), (.make, 2), (.pure, 3), (.pure, 6), (.pure, 7), (.pure, 10), (.pure, 11), (.turn, 12)] (by kernel_rfl) (by kernel_rfl) ?_
        obtain ⟨W2, hW2⟩ : ∃ W, W = W1.drew := ⟨_, rfl⟩
        rw [← hW2]
        have hb2 : Below W1.heap.size W1 W2 := by rw [hW2]; exact below_drew _
        clear hW2
        have hb12 : Below wr.heap.size wr W2 := hb1.trans (hb2.mono hb1.size)
        have f0 := fun n : Up W2 => n.cell (below_cellL hb2 c0.1)
        have f1 := fun n : Up W2 => n.cell (below_cellL hb2 c0.2.1)
        have f2 := fun n : Up W2 => n.cell (below_cellL hb2 c0.2.2)
        have hU := up_ne
        have hA := anyW_ne
        have HB12 := hidE hb12
        clear hb1 hb2 hb12 c0 q0 q1 q2
        repeat (first | refine turn_p rfl ?_ | refine turn_q rfl ?_); go_big_quiet_step (fail); refine wpQuiet_nil ?_
        refine turn_n rfl ?_
        go_wp2_with fail
        refine (hPr _ hm0 hm1).mono ?_
        rintro e W3 ⟨rfl, hb3⟩
        go_wp2_with fail
        refine ⟨rfl, hb3, ?_⟩
        clear f0 f1 f2
        repeat (first | refine turn_p rfl ?_ | refine turn_q rfl ?_); go_big_quiet_step (fail); refine wpQuiet_nil ?_
        refine turn_t rfl ?_
        have hb13 : Below wr.heap.size wr W3 := HB12.out.trans (hb3.mono HB12.out.size)
        have hI3 := bld_below HI.out hb13
        have hs3 := hb13.size
        have hB3 : Below w.heap.size w W3 := HB.out.trans (hb13.mono hsw)
        obtain ⟨sx, hsx⟩ : ∃ s : ByteArray, s = ts ++ ⟨#[32]⟩ ++ d ++ ⟨#[32, 102, 114, 111, 109, 32]⟩ ++ c ++ ⟨#[10]⟩ := ⟨_, rfl⟩
        have hsd : sx.data.toList = pline ⟨d, c, m⟩ := by
          rw [hsx, HAS.out]
          unfold pline
          simp only [← strOf_byt]
          simp
        have hsz : sx.size ≤ 2100 := by
          have := pline_len ⟨d, c, m⟩ ⟨hm0, hm1⟩ hd hcs
          rw [← hsd] at this
          simpa using this
        have hwr := bwrite_any w.heap.size w.heap.size _ sx W3 hI3 (by simp only [Lib.byteCells, List.length_map]; omega) (by omega)
        have HI4 : Hid (∀ w', Lib.BuilderAt 154 5 w.heap.size w.heap.size (.pointer (some ⟨w.heap.size, 0, none⟩)) (Lib.byteCells (printL (ps.take k)) ++ Lib.strCells sx) w' → Lib.IsBuilder 154 5 w.heap.size w.heap.size (Lib.byteCells (printL (ps.take (k + 1)))) w') := fun w' h => by
          rw [HPS.out, byteCells_append, ← hsd, ← strCells_byte]
          exact Or.inr h
        have HB3 := hidE hB3
        rw [hsx] at hwr
        have HSX := hidE hsx
        clear hsx hsd hI3 hb13 hB3 hb3
        go_wp2_with fail
        refine hwr.mono ?_
        rintro e W4 ⟨rfl, hI4, hb4⟩
        have HI5 := hidE (HI4.out W4 (by rw [HSX.out]; exact hI4))
        have HB5 : Hid (Below w.heap.size w W4) := HB3.out.trans hb4
        clear hwr hI4 hb4
        go_wp2_with fail
        refine ⟨rfl, ?_⟩
        refine turn_nil ?_
        go_wp2
        go_roundw
        case rel => exact ⟨k + 1, by omega, by go_num, HI5, HB5⟩
        case measure => simp [intOf]; omega
    · obtain rfl : k = ps.length := by omega
      rw [List.take_length] at HI
      have hst := Tryz.Builder_String_any w.heap.size w.heap.size (printL ps) wr HI.out hsw
      go_wp2_with fail
      refine hst.mono ?_
      rintro e W4 ⟨rfl, hb4⟩
      have HB5 : Hid (Below w.heap.size w W4) := HB.out.trans hb4
      clear hst hb4
      go_wp2
      go_ret
      exact ⟨rfl, HB5.out⟩
end Go.Proofs.YtppamojkhkdfpaaGreatDoor
namespace Go.Proofs.YtppamojkhkdfpaaGreatDoor
theorem amt_500 : amt 500 = [53, 46, 48, 48] := by
  unfold amt amtSize
  simp [wdN_small, dg, dv]
theorem amt_70 : amt 70 = [48, 46, 55, 48] := by
  unfold amt amtSize
  simp [wdN_small, dg, dv]
end Go.Proofs.YtppamojkhkdfpaaGreatDoor
namespace Go.Proofs.YtppamojkhkdfpaaGreatDoor
open Go.RowKit
theorem posted_text : printL (postL ⟨500, -70, 0, 0, 0⟩) = [53, 46, 48, 48, 32, 115, 116, 111, 99, 107, 32, 102, 114, 111, 109, 32, 115, 117, 112, 112, 108, 121, 10, 48, 46, 55, 48, 32, 115, 116, 111, 99, 107, 32, 102, 114, 111, 109, 32, 115, 111, 108, 100, 10] := by
  have e : postL ⟨500, -70, 0, 0, 0⟩ = [⟨aStock, aSupply, 500⟩, ⟨aStock, aSold, 70⟩] := by
    simp [postL, fives, post1, wrap64]
  rw [e]
  show pline ⟨aStock, aSupply, 500⟩ ++ (pline ⟨aStock, aSold, 70⟩ ++ []) = _
  unfold pline
  simp only [amt_500, amt_70]
  rfl
structure AccSz : Prop where
  aStock : aStock.size ≤ 1000
  aSupply : aSupply.size ≤ 1000
  aSold : aSold.size ≤ 1000
  aLoss : aLoss.size ≤ 1000
  aGain : aGain.size ≤ 1000
  aLate : aLate.size ≤ 1000
theorem acc_sz : AccSz := ⟨by decide, by decide, by decide, by decide, by decide, by decide⟩
theorem postL_ok (f : Fig) (hf : f.ok) : ∀ p ∈ postL f, I64 p.amt ∧ p.deb.size ≤ 1000 ∧ p.cre.size ≤ 1000 := by
  intro p hp
  unfold postL at hp
  rw [List.mem_flatMap] at hp
  obtain ⟨q, hq, hp⟩ := hp
  have hq2 : I64 q.amt ∧ q.deb.size ≤ 1000 ∧ q.cre.size ≤ 1000 := by
    simp only [fives, List.mem_cons, List.not_mem_nil, or_false] at hq
    rcases hq with rfl | rfl | rfl | rfl | rfl
    · exact ⟨hf.inn, acc_sz.aStock, acc_sz.aSupply⟩
    · exact ⟨hf.out, acc_sz.aSold, acc_sz.aStock⟩
    · exact ⟨hf.loss, acc_sz.aLoss, acc_sz.aStock⟩
    · exact ⟨hf.gain, acc_sz.aStock, acc_sz.aGain⟩
    · exact ⟨hf.late, acc_sz.aLate, acc_sz.aSupply⟩
  unfold post1 at hp
  split at hp
  · simp only [List.mem_singleton] at hp; subst hp; exact hq2
  · split at hp
    · simp only [List.mem_singleton] at hp; subst hp; exact ⟨i64_wrap _, hq2.2.2, hq2.2.1⟩
    · cases hp
set_option maxHeartbeats 2000000 in
theorem posted_any (w : World) : Calls Tryz.prog 34 #[] w fun r w' => r = .returned (.bool true) ∧ Below w.heap.size w w' := by
  have hp := post_any ⟨500, -70, 0, 0, 0⟩ w
  unfold figV at hp
  simp only at hp
  have hok : Fig.ok ⟨500, -70, 0, 0, 0⟩ := by constructor <;> (unfold I64; simp)
  have HO := hidE (postL_ok _ hok)
  have HL := hidE (postL_len ⟨500, -70, 0, 0, 0⟩)
  have HT := hidE posted_text
  obtain ⟨ps, hps⟩ : ∃ ps, ps = postL ⟨500, -70, 0, 0, 0⟩ := ⟨_, rfl⟩
  rw [← hps] at hp HO HL HT
  clear hps
  go_enter Tryz.func34, Tryz.ntmps34
  go_wp2_with fail
  refine hp.mono ?_
  rintro r w1 ⟨v, rfl, hown, hb1⟩
  obtain ⟨ad, n, cp, hv⟩ := own_lenL hown
  subst hv
  have hpr := lprint_any ps _ w1 (PstsAt.of_own hown) (by have := HL.out; omega) HO.out
  rw [HT.out] at hpr
  clear hown hp
  go_wp2_with fail
  refine hpr.mono ?_
  rintro r w2 ⟨rfl, hb2⟩
  have HB : Hid (Below w.heap.size w w2) := hb1.trans (hb2.mono hb1.size)
  clear hpr hb1 hb2
  go_wp2
  go_ret
  exact ⟨rfl, HB.out⟩
end Go.Proofs.YtppamojkhkdfpaaGreatDoor
