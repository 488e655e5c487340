/- The walk of event.Parse. -/
import Derived.Test.YtapkandekfndoaaGreatDoorEventRead
namespace Go.Proofs.YtapkandekfndoaaGreatDoor
open Go.RowKit
theorem kindOf_bd (l : List UInt8) : 0 ≤ kindOf l ∧ kindOf l ≤ 4 := by
  unfold kindOf
  split
  · omega
  split
  · omega
  split
  · omega
  split
  · omega
  · omega
theorem wf_of {n : Int} (h0 : -9223372036854775808 ≤ n) (h1 : n ≤ 9223372036854775807) : (Lit.int .i64 n).wf = true := by
  have e1 : IntKind.i64.min = -9223372036854775808 := rfl
  have e2 : IntKind.i64.max = 9223372036854775807 := rfl
  simp only [Lit.wf, Bool.and_eq_true, decide_eq_true_eq]
  rw [e1, e2]; exact ⟨h0, h1⟩
theorem numOf_bd (l : List UInt8) : -9223372036854775808 ≤ numOf l ∧ numOf l ≤ 9223372036854775807 := by
  rcases e : Lib.atoiAll l with v | _ | _
  · rw [numOf_ok e]; exact Lib.atoiAll_bounds e
  · rw [numOf_bad (fun v h => by rw [e] at h; cases h)]; omega
  · rw [numOf_bad (fun v h => by rw [e] at h; cases h)]; omega
theorem amtOf_bd (l : List UInt8) : -9223372036854775808 ≤ amtOf l ∧ amtOf l ≤ 9223372036854775807 := by
  unfold amtOf
  rcases e : parsed l with _ | n
  · show -9223372036854775808 ≤ (-1 : Int) ∧ (-1 : Int) ≤ 9223372036854775807; omega
  · have := parsed_some e
    show -9223372036854775808 ≤ n ∧ n ≤ 9223372036854775807; omega
theorem dayOf_bd (l : List UInt8) : -9223372036854775808 ≤ dayOf l ∧ dayOf l ≤ 9223372036854775807 := by
  unfold dayOf
  rcases e : dparsed l with _ | n
  · show -9223372036854775808 ≤ (-1 : Int) ∧ (-1 : Int) ≤ 9223372036854775807; omega
  · have := dparsed_some e
    show -9223372036854775808 ≤ n ∧ n ≤ 9223372036854775807; omega
/-- What is read holds numbers of 64 bits. -/
theorem pread_w (ps : List (List UInt8)) (h : (ps.getD 2 []).length ≤ 1000) : EvW (pread ps) := by
  have k := kindOf_bd (ps.getD 1 [])
  have d := dayOf_bd (ps.getD 0 [])
  have n3 := numOf_bd (ps.getD 3 [])
  have n5 := numOf_bd (ps.getD 5 [])
  have m3 := amtOf_bd (ps.getD 3 [])
  have m5 := amtOf_bd (ps.getD 5 [])
  refine ⟨wf_of (show -9223372036854775808 ≤ (0 : Int) by decide) (show (0 : Int) ≤ 9223372036854775807 by decide), ?_, wf_of (by show _ ≤ kindOf _; omega) (by show kindOf _ ≤ _; omega), ?_, ?_, ?_, wf_of d.1 d.2⟩
  · show (eb (ps.getD 2 [])).size ≤ maxLen
    have e : (eb (ps.getD 2 [])).size = (ps.getD 2 []).length := by rw [← dba_len]; rfl
    rw [e]; unfold maxLen; omega
  · show (Lit.int .i64 (if _ then _ else _)).wf = true
    split
    · exact wf_of (by decide) (by decide)
    · exact wf_of n3.1 n3.2
  · show (Lit.int .i64 (if _ then _ else _)).wf = true
    split
    · exact wf_of m5.1 m5.2
    · split
      · exact wf_of m3.1 m3.2
      · exact wf_of (by decide) (by decide)
  · show (Lit.int .i64 (if _ then _ else _)).wf = true
    split
    · exact wf_of n5.1 n5.2
    · exact wf_of (by decide) (by decide)
theorem ps_short (s : ByteArray) (k : Nat) : ((parts s).getD k ⟨#[]⟩).size ≤ s.size := by
  rw [List.getD]
  rcases h : (parts s)[k]? with _ | x
  · show 0 ≤ s.size; omega
  · exact parts_size s x (List.mem_of_getElem? h)
theorem bread_w (s : ByteArray) (hs : s.size ≤ 1000) : EvW (bread (parts s)) := by
  apply pread_w
  rw [getD_map, dba_len]
  have := ps_short s 2; omega
theorem bread_ps (s : ByteArray) : bread (parts s) = pread (ps s.data.toList) := by unfold bread; rw [parts_ps]
/-- How event.Parse begins: what is read, and in which world. -/
theorem cells_alloc (w : World) (l : List ByteArray) (k : Nat) (hk : k < l.length) : (w.alloc (.cells (l.map Value.string).toArray 9)).cell? ⟨w.heap.size, k, none⟩ = some (.string (l.getD k ⟨#[]⟩)) := by
  simp [List.getD, hk]
set_option maxHeartbeats 8000000 in
theorem eparse_ok (s : ByteArray) (e : Ev) (w : World) (hg : GlobE w) (hs : s.size ≤ 1000) (h : Reads s.data.toList e) :
    Calls Tryz.prog 37 #[.string s] w fun x w' => x = .returned (.tuple #[evV e, .nilIface]) ∧ Below w.heap.size w w' := by
  have hr : bread (parts s) = e := by rw [bread_ps]; exact reads_pread h
  have hw := bread_w s hs
  rw [hr] at hw
  have HG := hidN hg
  have HS := hidN hs
  have hR := fun (v : World) (hv : GlobE v) (hc : ∀ k : Nat, k < (parts s).length → v.cell? ⟨w.heap.size + 1, k, none⟩ = some (.string ((parts s).getD k ⟨#[]⟩))) => hidN (read_any (parts s) (w.heap.size + 1) v hv hc (fun x hx => by have := parts_size s x hx; omega))
  rw [hr] at hR
  have hPr := fun (v : World) (hv : GlobE v) => hidN (eprint_ok e v hv hw h.1)
  have ht : eb (ET e) = s := by rw [h.2.2, eb_data]
  rw [ht] at hPr
  have hcmp : (s.toList == s.toList) = true := by simp
  clear hr hw h ht hg hs
  obtain ⟨id, item, kind, qty, price, ofI, day⟩ := e
  unfold evV at *
  simp only at *
  obtain ⟨W0, hW0⟩ : ∃ W, W = w.alloc (.cells #[.int .i64 0, .string ⟨#[]⟩, .int .i64 0, .int .i64 0, .int .i64 0, .int .i64 0, .int .i64 0] 52) := ⟨_, rfl⟩
  have hB0 : Below w.heap.size w W0 := by rw [hW0]; exact (Below.refl _ _).alloc (Nat.le_refl _) _
  have hz0 : W0.heap.size = w.heap.size + 1 := by rw [hW0]; simp
  have hR0 : EvF W0 w.heap.size ⟨0, ⟨#[]⟩, 0, 0, 0, 0, 0⟩ := by
    refine ⟨?_, fun k => ?_⟩
    · rw [hW0]; constructor <;> simp
    · rw [hW0]; simp
  go_enter Tryz.func37, Tryz.ntmps37
  go_wp2_with fail
  rw [← hW0]
  clear hW0
  refine (splitN s _ (HG.out.below hB0).num HS.out).mono ?_
  rintro x W1 ⟨rfl, hw1⟩
  rw [hz0]
  have hb1 : Below W0.heap.size W0 W1 := by rw [hw1]; exact (Below.refl _ _).alloc (Nat.le_refl _) _
  have hC1 : ∀ k : Nat, k < (parts s).length → W1.cell? ⟨w.heap.size + 1, k, none⟩ = some (.string ((parts s).getD k ⟨#[]⟩)) := by
    intro k hk
    rw [hw1, ← hz0]; exact cells_alloc W0 (parts s) k hk
  have hB1 := hB0.trans (hb1.mono hB0.size)
  have hR1 := hR0.below hb1
  have HC1 := hidN hC1
  clear hw1 hz0 hC1 hb1 hR0 hB0
  go_wp2_with fail
  refine (hR _ (HG.out.below hB1) HC1.out).out.mono ?_
  rintro x W2 ⟨rfl, hb2⟩
  have hB2 := hB1.trans (hb2.mono hB1.size)
  have hR2 := hR1.below hb2
  clear HC1 hR1 hb2 hR hB1
  obtain ⟨W3, hW3⟩ : ∃ W, W = W2.alloc (.cells #[.int .i64 id, .string item, .int .i64 kind, .int .i64 qty, .int .i64 price, .int .i64 ofI, .int .i64 day] 52) := ⟨_, rfl⟩
  have hb3 : Below W2.heap.size W2 W3 := by rw [hW3]; exact (Below.refl _ _).alloc (Nat.le_refl _) _
  have hB3 := hB2.trans (hb3.mono hB2.size)
  have hR3 := hR2.below hb3
  have hX3 : EvF W3 W2.heap.size ⟨id, item, kind, qty, price, ofI, day⟩ := by
    refine ⟨?_, fun k => ?_⟩
    · rw [hW3]; constructor <;> simp
    · rw [hW3]; simp
  have hlt := World.block_lt_of_cell? _ _ hR2.ev.c0
  simp only at hlt
  have hne : ¬ W2.heap.size = w.heap.size := by omega
  have hne' : ¬ w.heap.size = W2.heap.size := by omega
  have hle : w.heap.size ≤ W2.heap.size := hB2.size
  go_wp2_with fail
  rw [← hW3]
  clear hW3 hb3 hR2 hB2 hlt
  refine (hPr _ (HG.out.below hB3)).out.mono ?_
  rintro x W4 ⟨rfl, hb4⟩
  have hB4 := hB3.trans (hb4.mono hB3.size)
  obtain ⟨r0, r1, r2, r3, r4, r5, r6⟩ := (hR3.below hb4).ev
  have rf := (hR3.below hb4).fz
  obtain ⟨x0, x1, x2, x3, x4, x5, x6⟩ := (hX3.below hb4).ev
  simp only at r0 r1 r2 r3 r4 r5 r6 x0 x1 x2 x3 x4 x5 x6
  clear hB3 hR3 hX3 hb4 hPr HG HS
  go_wp2
  refine bodyPost_ret (v := .tuple #[.agg #[.int .i64 id, .string item, .int .i64 kind, .int .i64 qty, .int .i64 price, .int .i64 ofI, .int .i64 day], .nilIface]) (by simp [results, Tryz.results37, go_sem, *]) rfl ⟨rfl, ?_⟩
  exact ((((((hB4.setCell (Nat.le_refl _) _).setCell (Nat.le_refl _) _).setCell (Nat.le_refl _) _).setCell (Nat.le_refl _) _).setCell (Nat.le_refl _) _).setCell (Nat.le_refl _) _).setCell (Nat.le_refl _) _
/-- No event, as a value. -/
def ev0 : Ev := ⟨0, ⟨#[]⟩, 0, 0, 0, 0, 0⟩
set_option maxHeartbeats 8000000 in
theorem eparse_no (s : ByteArray) (e : Ev) (w : World) (hg : GlobE w) (hs : s.size ≤ 1000) (hr : bread (parts s) = e) (hR : ¬ Rt e) :
    Calls Tryz.prog 37 #[.string s] w fun x w' => x = .returned (.tuple #[evV ev0, .iface 23 (.int .i64 3)]) ∧ Below w.heap.size w w' := by
  have hw := bread_w s hs
  rw [hr] at hw
  have hPr := fun (v : World) (_ : GlobE v) => hidN (eprint_bad e v hw hR)
  clear hR
  have HG := hidN hg
  have HS := hidN hs
  have hR := fun (v : World) (hv : GlobE v) (hc : ∀ k : Nat, k < (parts s).length → v.cell? ⟨w.heap.size + 1, k, none⟩ = some (.string ((parts s).getD k ⟨#[]⟩))) => hidN (read_any (parts s) (w.heap.size + 1) v hv hc (fun x hx => by have := parts_size s x hx; omega))
  rw [hr] at hR
  clear hr hw hg hs
  unfold ev0
  obtain ⟨id, item, kind, qty, price, ofI, day⟩ := e
  unfold evV at *
  simp only at *
  obtain ⟨W0, hW0⟩ : ∃ W, W = w.alloc (.cells #[.int .i64 0, .string ⟨#[]⟩, .int .i64 0, .int .i64 0, .int .i64 0, .int .i64 0, .int .i64 0] 52) := ⟨_, rfl⟩
  have hB0 : Below w.heap.size w W0 := by rw [hW0]; exact (Below.refl _ _).alloc (Nat.le_refl _) _
  have hz0 : W0.heap.size = w.heap.size + 1 := by rw [hW0]; simp
  have hR0 : EvF W0 w.heap.size ⟨0, ⟨#[]⟩, 0, 0, 0, 0, 0⟩ := by
    refine ⟨?_, fun k => ?_⟩
    · rw [hW0]; constructor <;> simp
    · rw [hW0]; simp
  go_enter Tryz.func37, Tryz.ntmps37
  go_wp2_with fail
  rw [← hW0]
  clear hW0
  refine (splitN s _ (HG.out.below hB0).num HS.out).mono ?_
  rintro x W1 ⟨rfl, hw1⟩
  rw [hz0]
  have hb1 : Below W0.heap.size W0 W1 := by rw [hw1]; exact (Below.refl _ _).alloc (Nat.le_refl _) _
  have hC1 : ∀ k : Nat, k < (parts s).length → W1.cell? ⟨w.heap.size + 1, k, none⟩ = some (.string ((parts s).getD k ⟨#[]⟩)) := by
    intro k hk
    rw [hw1, ← hz0]; exact cells_alloc W0 (parts s) k hk
  have hB1 := hB0.trans (hb1.mono hB0.size)
  have hR1 := hR0.below hb1
  have HC1 := hidN hC1
  clear hw1 hz0 hC1 hb1 hR0 hB0
  go_wp2_with fail
  refine (hR _ (HG.out.below hB1) HC1.out).out.mono ?_
  rintro x W2 ⟨rfl, hb2⟩
  have hB2 := hB1.trans (hb2.mono hB1.size)
  have hR2 := hR1.below hb2
  clear HC1 hR1 hb2 hR hB1
  obtain ⟨W3, hW3⟩ : ∃ W, W = W2.alloc (.cells #[.int .i64 id, .string item, .int .i64 kind, .int .i64 qty, .int .i64 price, .int .i64 ofI, .int .i64 day] 52) := ⟨_, rfl⟩
  have hb3 : Below W2.heap.size W2 W3 := by rw [hW3]; exact (Below.refl _ _).alloc (Nat.le_refl _) _
  have hB3 := hB2.trans (hb3.mono hB2.size)
  have hR3 := hR2.below hb3
  have hX3 : EvF W3 W2.heap.size ⟨id, item, kind, qty, price, ofI, day⟩ := by
    refine ⟨?_, fun k => ?_⟩
    · rw [hW3]; constructor <;> simp
    · rw [hW3]; simp
  have hlt := World.block_lt_of_cell? _ _ hR2.ev.c0
  simp only at hlt
  have hne : ¬ W2.heap.size = w.heap.size := by omega
  have hne' : ¬ w.heap.size = W2.heap.size := by omega
  have hle : w.heap.size ≤ W2.heap.size := hB2.size
  go_wp2_with fail
  rw [← hW3]
  clear hW3 hb3 hR2 hB2 hlt
  refine (hPr _ (HG.out.below hB3)).out.mono ?_
  rintro x W4 ⟨rfl, hb4⟩
  have hB4 := hB3.trans (hb4.mono hB3.size)
  obtain ⟨r0, r1, r2, r3, r4, r5, r6⟩ := (hR3.below hb4).ev
  have rf := (hR3.below hb4).fz
  obtain ⟨x0, x1, x2, x3, x4, x5, x6⟩ := (hX3.below hb4).ev
  simp only at r0 r1 r2 r3 r4 r5 r6 x0 x1 x2 x3 x4 x5 x6
  clear hB3 hR3 hX3 hb4 hPr HG HS
  go_wp2
  refine bodyPost_ret (v := .tuple #[.agg #[.int .i64 0, .string ⟨#[]⟩, .int .i64 0, .int .i64 0, .int .i64 0, .int .i64 0, .int .i64 0], .iface 23 (.int .i64 3)]) (by simp [results, Tryz.results37, go_sem, *]) rfl ⟨rfl, ?_⟩
  exact ((((((hB4.setCell (Nat.le_refl _) _).setCell (Nat.le_refl _) _).setCell (Nat.le_refl _) _).setCell (Nat.le_refl _) _).setCell (Nat.le_refl _) _).setCell (Nat.le_refl _) _).setCell (Nat.le_refl _) _
set_option maxHeartbeats 8000000 in
theorem eparse_other (s : ByteArray) (e : Ev) (w : World) (hg : GlobE w) (hs : s.size ≤ 1000) (hr : bread (parts s) = e) (hE : Rt e) (hne0 : ET e ≠ s.data.toList) :
    Calls Tryz.prog 37 #[.string s] w fun x w' => x = .returned (.tuple #[evV ev0, .iface 23 (.int .i64 3)]) ∧ Below w.heap.size w w' := by
  have hw := bread_w s hs
  rw [hr] at hw
  obtain ⟨t, ht⟩ : ∃ t, eb (ET e) = t := ⟨_, rfl⟩
  have hcmp : (t.toList == s.toList) = false := by
    rw [← ht, ByteArray.toList_eq, ByteArray.toList_eq]
    exact beq_eq_false_iff_ne.2 hne0
  have hPr := fun (v : World) (hv : GlobE v) => hidN (eprint_ok e v hv hw hE)
  rw [ht] at hPr
  clear hE hne0 ht
  have HG := hidN hg
  have HS := hidN hs
  have hR := fun (v : World) (hv : GlobE v) (hc : ∀ k : Nat, k < (parts s).length → v.cell? ⟨w.heap.size + 1, k, none⟩ = some (.string ((parts s).getD k ⟨#[]⟩))) => hidN (read_any (parts s) (w.heap.size + 1) v hv hc (fun x hx => by have := parts_size s x hx; omega))
  rw [hr] at hR
  clear hr hw hg hs
  unfold ev0
  obtain ⟨id, item, kind, qty, price, ofI, day⟩ := e
  unfold evV at *
  simp only at *
  obtain ⟨W0, hW0⟩ : ∃ W, W = w.alloc (.cells #[.int .i64 0, .string ⟨#[]⟩, .int .i64 0, .int .i64 0, .int .i64 0, .int .i64 0, .int .i64 0] 52) := ⟨_, rfl⟩
  have hB0 : Below w.heap.size w W0 := by rw [hW0]; exact (Below.refl _ _).alloc (Nat.le_refl _) _
  have hz0 : W0.heap.size = w.heap.size + 1 := by rw [hW0]; simp
  have hR0 : EvF W0 w.heap.size ⟨0, ⟨#[]⟩, 0, 0, 0, 0, 0⟩ := by
    refine ⟨?_, fun k => ?_⟩
    · rw [hW0]; constructor <;> simp
    · rw [hW0]; simp
  go_enter Tryz.func37, Tryz.ntmps37
  go_wp2_with fail
  rw [← hW0]
  clear hW0
  refine (splitN s _ (HG.out.below hB0).num HS.out).mono ?_
  rintro x W1 ⟨rfl, hw1⟩
  rw [hz0]
  have hb1 : Below W0.heap.size W0 W1 := by rw [hw1]; exact (Below.refl _ _).alloc (Nat.le_refl _) _
  have hC1 : ∀ k : Nat, k < (parts s).length → W1.cell? ⟨w.heap.size + 1, k, none⟩ = some (.string ((parts s).getD k ⟨#[]⟩)) := by
    intro k hk
    rw [hw1, ← hz0]; exact cells_alloc W0 (parts s) k hk
  have hB1 := hB0.trans (hb1.mono hB0.size)
  have hR1 := hR0.below hb1
  have HC1 := hidN hC1
  clear hw1 hz0 hC1 hb1 hR0 hB0
  go_wp2_with fail
  refine (hR _ (HG.out.below hB1) HC1.out).out.mono ?_
  rintro x W2 ⟨rfl, hb2⟩
  have hB2 := hB1.trans (hb2.mono hB1.size)
  have hR2 := hR1.below hb2
  clear HC1 hR1 hb2 hR hB1
  obtain ⟨W3, hW3⟩ : ∃ W, W = W2.alloc (.cells #[.int .i64 id, .string item, .int .i64 kind, .int .i64 qty, .int .i64 price, .int .i64 ofI, .int .i64 day] 52) := ⟨_, rfl⟩
  have hb3 : Below W2.heap.size W2 W3 := by rw [hW3]; exact (Below.refl _ _).alloc (Nat.le_refl _) _
  have hB3 := hB2.trans (hb3.mono hB2.size)
  have hR3 := hR2.below hb3
  have hX3 : EvF W3 W2.heap.size ⟨id, item, kind, qty, price, ofI, day⟩ := by
    refine ⟨?_, fun k => ?_⟩
    · rw [hW3]; constructor <;> simp
    · rw [hW3]; simp
  have hlt := World.block_lt_of_cell? _ _ hR2.ev.c0
  simp only at hlt
  have hne : ¬ W2.heap.size = w.heap.size := by omega
  have hne' : ¬ w.heap.size = W2.heap.size := by omega
  have hle : w.heap.size ≤ W2.heap.size := hB2.size
  go_wp2_with fail
  rw [← hW3]
  clear hW3 hb3 hR2 hB2 hlt
  refine (hPr _ (HG.out.below hB3)).out.mono ?_
  rintro x W4 ⟨rfl, hb4⟩
  have hB4 := hB3.trans (hb4.mono hB3.size)
  obtain ⟨r0, r1, r2, r3, r4, r5, r6⟩ := (hR3.below hb4).ev
  have rf := (hR3.below hb4).fz
  obtain ⟨x0, x1, x2, x3, x4, x5, x6⟩ := (hX3.below hb4).ev
  simp only at r0 r1 r2 r3 r4 r5 r6 x0 x1 x2 x3 x4 x5 x6
  clear hB3 hR3 hX3 hb4 hPr HG HS
  go_wp2
  refine bodyPost_ret (v := .tuple #[.agg #[.int .i64 0, .string ⟨#[]⟩, .int .i64 0, .int .i64 0, .int .i64 0, .int .i64 0, .int .i64 0], .iface 23 (.int .i64 3)]) (by simp [results, Tryz.results37, go_sem, *]) rfl ⟨rfl, ?_⟩
  exact ((((((hB4.setCell (Nat.le_refl _) _).setCell (Nat.le_refl _) _).setCell (Nat.le_refl _) _).setCell (Nat.le_refl _) _).setCell (Nat.le_refl _) _).setCell (Nat.le_refl _) _).setCell (Nat.le_refl _) _
/-- event.Parse at a text that is no event's. -/
theorem eparse_bad (s : ByteArray) (w : World) (hg : GlobE w) (hs : s.size ≤ 1000) (h : ∀ e, ¬ Reads s.data.toList e) :
    Calls Tryz.prog 37 #[.string s] w fun x w' => x = .returned (.tuple #[evV ev0, .iface 23 (.int .i64 3)]) ∧ Below w.heap.size w w' := by
  rcases Classical.em (Rt (bread (parts s))) with hr | hr
  · exact eparse_other s _ w hg hs rfl hr (fun he => h _ ⟨hr, rfl, he⟩)
  · exact eparse_no s _ w hg hs rfl hr
end Go.Proofs.YtapkandekfndoaaGreatDoor
