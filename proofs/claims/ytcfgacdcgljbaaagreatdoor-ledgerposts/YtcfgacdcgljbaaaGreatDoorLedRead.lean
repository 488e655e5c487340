/- The walk of ledger.read. -/
import Derived.Test.YtcfgacdcgljbaaaGreatDoorLedAcc
import Derived.Test.YtcfgacdcgljbaaaGreatDoorBnG
import Derived.Test.YtcfgacdcgljbaaaGreatDoorShP
import Derived.Test.YtcfgacdcgljbaaaGreatDoorBnI
namespace Go.Proofs.YtcfgacdcgljbaaaGreatDoor
open Go.RowKit
/-- What the walks of ledger.Parse ask of the package-level variables. -/
structure LedG (w : World) : Prop where
  acc : AccG w
  ml : ∃ m, w.cell? ⟨3, 0, none⟩ = some (.int .i64 m)
theorem LedG.below {w w' : World} (h : LedG w) (hb : Below w.heap.size w w') : LedG w' :=
  ⟨h.acc.below hb, h.ml.imp fun _ hm => (hb.cell (World.block_lt_of_cell? _ _ hm)).trans hm⟩
/-- The parts of a line's text. -/
def partsR (t : ByteArray) : List ByteArray := Lib.splitB ⟨#[32]⟩ 0 (min 4 (t.size + 1) - 1) t
theorem partsR_data (t : ByteArray) : (partsR t).map (·.data.toList) = Lib.splitK [32] 0 (min 4 (t.size + 1) - 1) t.data.toList := Lib.splitB_data ⟨#[32]⟩ 0 _ t
theorem partsR_len (t : ByteArray) : (partsR t).length ≤ min 4 (t.size + 1) := by
  have := Lib.splitB_length_le ⟨#[32]⟩ 0 (min 4 (t.size + 1) - 1) t
  unfold partsR
  omega
theorem partsR_size (t : ByteArray) : ∀ x ∈ partsR t, x.size ≤ t.size := fun x hx => by
  have hm : x.data.toList ∈ Lib.splitK [32] 0 (min 4 (t.size + 1) - 1) t.data.toList := by
    rw [← partsR_data]; exact List.mem_map.2 ⟨x, hx, rfl⟩
  have := pieceL_le [32] _ _ _ hm
  simpa using this
theorem split_call (t : ByteArray) (w : World) (hg : LedG w) (hs : t.size ≤ 100000) :
    Calls Tryz.prog 131 #[.string t, .string ⟨#[32]⟩, .int .i64 4] w fun e w' => e = .returned (.slice (some ⟨w.heap.size, 0, none⟩) (partsR t).length (min 4 (t.size + 1))) ∧ (∀ k (hk : k < (partsR t).length), w'.cell? ⟨w.heap.size, k, none⟩ = some (.string (partsR t)[k])) ∧ Below w.heap.size w w' := by
  obtain ⟨m, hm⟩ := hg.ml
  refine (Tryz.strings_SplitN t ⟨#[32]⟩ 4 m w (by omega) hm (by decide) (by omega) (by omega)).mono ?_
  rintro e w' ⟨rfl, rfl⟩
  refine ⟨rfl, fun k hk => ?_, (Below.refl _ _).alloc (Nat.le_refl _) _⟩
  have h1 : (w.alloc (.cells (Lib.cellsOf (partsR t) (min 4 (t.size + 1))) 9)).cell? ⟨w.heap.size, k, none⟩ = (Lib.cellsOf (partsR t) (min 4 (t.size + 1)))[k]? := by simp
  refine h1.trans ?_
  unfold Lib.cellsOf
  rw [List.getElem?_toArray, List.getElem?_append_left (by simpa using hk), List.getElem?_map, List.getElem?_eq_getElem hk]
  rfl
theorem trim_of {l t : List UInt8} (h : l = t ++ [10]) : Lib.hasSuffix l [10] = true ∧ Lib.trimSuffix l [10] = t := by
  have h1 : Lib.hasSuffix l [10] = true := by
    subst h
    unfold Lib.hasSuffix
    rw [List.isSuffixOf_iff_suffix]
    exact ⟨t, rfl⟩
  refine ⟨h1, ?_⟩
  unfold Lib.trimSuffix
  rw [if_pos h1, h]
  simp
theorem trim_back {l : List UInt8} (h : Lib.hasSuffix l [10] = true) : l = Lib.trimSuffix l [10] ++ [10] := by
  have h1 := h
  unfold Lib.hasSuffix at h
  rw [List.isSuffixOf_iff_suffix] at h
  obtain ⟨t, rfl⟩ := h
  rw [(trim_of rfl).2]
theorem size_nil {x : ByteArray} (h : x.toList = []) : x.size = 0 := by
  rw [ByteArray.toList_eq] at h
  have := congrArg List.length h
  simpa using this
theorem setP_same {w : World} {a : Addr} {u v : Value} (h : w.cell? a = some u) : (w.setCell a v).cell? a = some v := World.cell?_setCell_same w a v h
theorem setP_other {w : World} {a b : Addr} {v : Value} (h : a ≠ b) : (w.setCell a v).cell? b = w.cell? b := World.cell?_setCell_other w a b v h
theorem three_set {w : World} {b : Nat} {u0 u1 u2 v0 v1 v2 : Value} (h0 : w.cell? ⟨b, 0, none⟩ = some u0) (h1 : w.cell? ⟨b, 1, none⟩ = some u1) (h2 : w.cell? ⟨b, 2, none⟩ = some u2) :
    (((w.setCell ⟨b, 0, none⟩ v0).setCell ⟨b, 1, none⟩ v1).setCell ⟨b, 2, none⟩ v2).cell? ⟨b, 0, none⟩ = some v0 ∧ (((w.setCell ⟨b, 0, none⟩ v0).setCell ⟨b, 1, none⟩ v1).setCell ⟨b, 2, none⟩ v2).cell? ⟨b, 1, none⟩ = some v1 ∧ (((w.setCell ⟨b, 0, none⟩ v0).setCell ⟨b, 1, none⟩ v1).setCell ⟨b, 2, none⟩ v2).cell? ⟨b, 2, none⟩ = some v2 :=
  ⟨(setP_other (by simp)).trans ((setP_other (by simp)).trans (setP_same h0)), (setP_other (by simp)).trans (setP_same ((setP_other (by simp)).trans h1)), setP_same ((setP_other (by simp)).trans ((setP_other (by simp)).trans h2))⟩
def pst0 : Pst := ⟨⟨#[]⟩, ⟨#[]⟩, 0⟩
theorem zero_pst (w : World) : (zeroValue 75).run Tryz.prog w = .ok (.agg #[.string ⟨#[]⟩, .string ⟨#[]⟩, .int .i64 0]) w := by kernel_rfl
set_option maxRecDepth 20000 in
set_option maxHeartbeats 4000000 in
theorem read_yes (p : Pst) (line : ByteArray) (w : World) (hp : Vp p) (hl : line.data.toList = pline p) (hs : line.size ≤ 100000) (hg : LedG w) :
    Calls Tryz.prog 80 #[.string line] w fun r w' => r = .returned (.tuple #[pstV p, .bool true]) ∧ Below w.heap.size w w' := by
  obtain ⟨tx, htx⟩ : ∃ t : ByteArray, t = ⟨(tline p).toArray⟩ := ⟨_, rfl⟩
  have htd : tx.data.toList = tline p := by rw [htx]
  have hts : tx.size + 1 = line.size := by
    have h1 := congrArg List.length hl
    rw [pline_t, List.length_append, ← htd] at h1
    simpa using h1.symm
  have ht3 : 3 ≤ tx.size := by
    have := tline_len p
    rw [← htd] at this
    simpa using this
  have hpd : (partsR tx).map (·.data.toList) = [byt (amt p.amt), p.deb.data.toList, [102, 114, 111, 109], p.cre.data.toList] := by
    rw [partsR_data, htd, show min 4 (tx.size + 1) - 1 = 3 by omega]
    exact split_tline hp
  have hh := trim_of (hl.trans (pline_t p))
  have hcut : ∀ W, Calls Tryz.prog 130 #[.string line, .string ⟨#[10]⟩] W fun e w' => e = .returned (.tuple #[.string tx, .bool true]) ∧ w' = W := fun W => by
    have h1 := Tryz.strings_CutSuffix line ⟨#[10]⟩ W (by omega)
    simp only at h1
    rw [hh.1, hh.2, ← htx] at h1
    exact h1
  obtain ⟨x0, x1, x2, x3, hp4⟩ : ∃ x0 x1 x2 x3, partsR tx = [x0, x1, x2, x3] := by
    have h1 := congrArg List.length hpd
    rw [List.length_map] at h1
    match hq : partsR tx, h1 with
    | [x0, x1, x2, x3], _ => exact ⟨x0, x1, x2, x3, rfl⟩
  have hsz := partsR_size tx
  have hspl := split_call tx
  rw [hp4] at hpd hsz hspl
  simp only [List.map_cons, List.map_nil, List.cons.injEq, and_true] at hpd
  obtain ⟨e0, e1, e2, e3⟩ := hpd
  have y1 : x1 = p.deb := ByteArray.ext (Array.toList_inj.1 e1)
  have y2 : x2 = ⟨#[102, 114, 111, 109]⟩ := ByteArray.ext (Array.toList_inj.1 e2)
  have y3 : x3 = p.cre := ByteArray.ext (Array.toList_inj.1 e3)
  subst y1 y2 y3
  have hpa := fun W => parse_ok x0 p.amt W (by rw [e0]; exact hp.parsed)
  have hac1 := fun W => account_any p.deb W
  have hac2 := fun W => account_any p.cre W
  rw [accOf_mem hp.d] at hac1
  rw [accOf_mem hp.c] at hac2
  have n1b : ¬ p.deb.toList = [] := fun e => (accL_sz hp.d).2.1 (size_nil e)
  have n2b : ¬ p.cre.toList = [] := fun e => (accL_sz hp.c).2.1 (size_nil e)
  have n1 : p.deb.toList.isEmpty = false := by simpa using n1b
  have n2 : p.cre.toList.isEmpty = false := by simpa using n2b
  have n3 : (p.deb.toList == p.cre.toList) = false := by rw [str_eq, decide_eq_false_iff_not]; exact hp.ne
  have ha1 : ¬ p.amt < 1 := by have := hp.a1; omega
  obtain ⟨w0, hw0⟩ : ∃ W, W = w.alloc (.cells #[.string ⟨#[]⟩, .string ⟨#[]⟩, .int .i64 0] 75) := ⟨_, rfl⟩
  have hb0 : Below w.heap.size w w0 := by rw [hw0]; exact (Below.refl _ _).alloc (Nat.le_refl _) _
  have hs0 : w0.heap.size = w.heap.size + 1 := by rw [hw0]; simp
  have hc0 : ∀ j, w0.frozen? ⟨w.heap.size, j, none⟩ = false := fun j => by rw [hw0]; simp
  have hc1 : w0.cell? ⟨w.heap.size, 0, none⟩ = some (.string ⟨#[]⟩) ∧ w0.cell? ⟨w.heap.size, 1, none⟩ = some (.string ⟨#[]⟩) ∧ w0.cell? ⟨w.heap.size, 2, none⟩ = some (.int .i64 0) := by rw [hw0]; simp
  have HS0 := hidE hs0
  have HB0 := hidE hb0
  have HC0 := hidE hc0
  have HC1 := hidE hc1
  have HG := hidE hg
  have HS := hidE (show tx.size ≤ 100000 by omega)
  have HW0 := hidE hw0
  have HSP := hidE hspl
  have HPA := hidE hpa
  have HA1 := hidE hac1
  have HA2 := hidE hac2
  clear hs0 hw0 hb0 hc0 hc1 hg hspl hpa hac1 hac2 hp htx htd hl hh e0 e1 e2 e3 hsz hp4
  obtain ⟨d, c, n⟩ := p
  simp only at n1 n2 n1b n2b n3 ha1 HSP HPA HA1 HA2
  unfold pstV
  simp only
  go_enter Tryz.func80, Tryz.ntmps80
  go_wp2_with fail
  rw [← HW0.out]
  refine (hcut _).mono ?_
  rintro e w1 ⟨rfl, rfl⟩
  go_wp2_with fail
  refine (HSP.out _ (HG.out.below HB0.out) HS.out).mono ?_
  rintro e w2 ⟨rfl, hcs, hb2⟩
  have q0 := hcs 0 (by simp)
  have q1 := hcs 1 (by simp)
  have q2 := hcs 2 (by simp)
  have q3 := hcs 3 (by simp)
  simp only [List.getElem_cons_zero, List.getElem_cons_succ] at q0 q1 q2 q3
  have HB2 := hidE hb2
  have hs2 := hb2.size
  clear hcs hcut hb2
  simp only [List.length_cons, List.length_nil, Nat.reduceAdd]
  go_wp2_with fail
  refine (HPA.out _).mono ?_
  rintro e w3 ⟨rfl, hb3⟩
  have hB3 : Below w.heap.size w w3 := HB0.out.trans ((HB2.out.trans (hb3.mono hs2)).mono HB0.out.size)
  have p1 := (hb3.cell (World.block_lt_of_cell? _ _ q1)).trans q1
  have p3 := (hb3.cell (World.block_lt_of_cell? _ _ q3)).trans q3
  have hb03 : Below w1.heap.size w1 w3 := HB2.out.trans (hb3.mono hs2)
  have HB3 := hidE hB3
  have HB03 := hidE hb03
  clear q0 q1 q2 q3 hb3 hB3 hb03
  go_wp2_with fail
  refine wp_region_mix [(true, 0), (true, 1), (true, 2), (true, 4), (true, 5), (true, 6), (false, 3), (false, 7), (true, 8), (true, 9)] (by kernel_rfl) (by kernel_rfl) ?_
  obtain ⟨W3, hW3⟩ : ∃ W, W = w3.drew := ⟨_, rfl⟩
  rw [← hW3]
  have hbd : Below w3.heap.size w3 W3 := by rw [hW3]; exact below_drew _
  clear hW3
  have f1 := fun n : Up W3 => n.cell ((hbd.cell (World.block_lt_of_cell? _ _ p1)).trans p1)
  have f3 := fun n : Up W3 => n.cell ((hbd.cell (World.block_lt_of_cell? _ _ p3)).trans p3)
  have hU := up_ne
  have hA := anyW_ne
  have HBD := hidE hbd
  clear hbd p1 p3
  repeat (refine mix_q rfl ?_; go_big_quiet_step (fail); refine wpQuiet_nil ?_)
  clear f1 f3
  have hgW : AccG W3 := ((HG.out.below HB3.out).below HBD.out).acc
  refine mix_n rfl ?_
  go_wp2_with fail
  refine (HA1.out _ hgW).mono ?_
  rintro e w4 ⟨rfl, rfl⟩
  go_wp2_with fail
  refine ⟨rfl, Below.refl _ _, ?_⟩
  refine mix_n rfl ?_
  go_wp2_with fail
  refine (HA2.out _ hgW).mono ?_
  rintro e w5 ⟨rfl, rfl⟩
  go_wp2_with fail
  refine ⟨rfl, Below.refl _ _, ?_⟩
  repeat (refine mix_q rfl ?_; go_big_quiet_step (fail); refine wpQuiet_nil ?_)
  refine mix_nil ?_
  have hb05 : Below w1.heap.size w1 w5 := HB03.out.trans (HBD.out.mono HB03.out.size)
  have hlt : w.heap.size < w1.heap.size := by have := HS0.out; omega
  have z0 := (hb05.cell (p := ⟨w.heap.size, 0, none⟩) hlt).trans HC1.out.1
  have z1 := (hb05.cell (p := ⟨w.heap.size, 1, none⟩) hlt).trans HC1.out.2.1
  have z2 := (hb05.cell (p := ⟨w.heap.size, 2, none⟩) hlt).trans HC1.out.2.2
  have g0 := (hb05.frozen (p := ⟨w.heap.size, 0, none⟩) hlt).trans (HC0.out 0)
  have g1 := (hb05.frozen (p := ⟨w.heap.size, 1, none⟩) hlt).trans (HC0.out 1)
  have g2 := (hb05.frozen (p := ⟨w.heap.size, 2, none⟩) hlt).trans (HC0.out 2)
  have HBF : Hid (Below w.heap.size w w5) := HB0.out.trans (hb05.mono HB0.out.size)
  clear hb05 hlt
  have HTS := hidE (three_set (v0 := .string d) (v1 := .string c) (v2 := .int .i64 n) z0 z1 z2)
  go_wp2
  obtain ⟨r0, r1, r2⟩ := HTS.out
  refine bodyPost_ret (v := .tuple #[.agg #[.string d, .string c, .int .i64 n], .bool true]) (by simp [results, Tryz.results80, go_sem, r0, r1, r2]) rfl ⟨rfl, ?_⟩
  exact ((HBF.out.setCell (p := ⟨w.heap.size, 0, none⟩) (Nat.le_refl _) _).setCell (p := ⟨w.heap.size, 1, none⟩) (Nat.le_refl _) _).setCell (p := ⟨w.heap.size, 2, none⟩) (Nat.le_refl _) _
end Go.Proofs.YtcfgacdcgljbaaaGreatDoor
