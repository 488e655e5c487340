/- The walks of slices.IndexFunc, slices.Clone, slices.DeleteFunc and slices.Equal at lines. -/
import Derived.Test.YtgjjfeimgbibjaaKpDel
namespace Go.Proofs.Ytgjjfeimgbibjaa
open Go.RowKit Go.Shelf Go.Maps
/-- A line as a value. -/
def linV (y : Lin) : Value := .agg #[.int .i64 y.id, .int .i64 y.val, .int .i64 y.short, .int .i64 y.late, .bool y.gain]
structure LinAt (w : World) (b : Nat) (y : Lin) : Prop where
  c0 : w.cell? ⟨b, 0, none⟩ = some (.int .i64 y.id)
  c1 : w.cell? ⟨b, 1, none⟩ = some (.int .i64 y.val)
  c2 : w.cell? ⟨b, 2, none⟩ = some (.int .i64 y.short)
  c3 : w.cell? ⟨b, 3, none⟩ = some (.int .i64 y.late)
  c4 : w.cell? ⟨b, 4, none⟩ = some (.bool y.gain)
theorem LinAt.below {w w' : World} {b : Nat} {y : Lin} (h : LinAt w b y) (hb : Below w.heap.size w w') : LinAt w' b y :=
  ⟨below_cell hb h.c0, below_cell hb h.c1, below_cell hb h.c2, below_cell hb h.c3, below_cell hb h.c4⟩
/-- Lines lie behind an address, if there are any. -/
def LinsC (w : World) (ao : Option Addr) (l : List Lin) : Prop := 0 < l.length → ∃ b off, ao = some ⟨b, off, none⟩ ∧ b < w.heap.size ∧ ∀ k (hk : k < l.length) j, j < 5 → w.cell? ⟨b, off + k * 5 + j, none⟩ = (linC l[k])[j]?
theorem LinsC.below {w w' : World} {ao : Option Addr} {l : List Lin} (h : LinsC w ao l) (hb : Below w.heap.size w w') : LinsC w' ao l := fun hp => by
  obtain ⟨b, off, e, hlt, hc⟩ := h hp
  exact ⟨b, off, e, Nat.lt_of_lt_of_le hlt hb.size, fun k hk j hj => (hb.cell (p := ⟨b, off + k * 5 + j, none⟩) hlt).trans (hc k hk j hj)⟩
theorem lins_of_own {w : World} {B : Nat} {v : Value} {l : List Lin} (h : w.ownsRow B 45 5 v l.length (l.flatMap linC)) : ∃ ao cap, v = .slice ao l.length cap ∧ LinsC w ao l := by
  rcases own_form h with ⟨hv, hn, _⟩ | ⟨g, cap, hv, _, hgl, _⟩
  · have hz : l = [] := List.length_eq_zero_iff.1 hn
    subst hz
    exact ⟨none, 0, hv, fun h => absurd h (Nat.lt_irrefl _)⟩
  · subst hv
    exact ⟨_, cap, rfl, fun _ => ⟨g, 0, rfl, hgl, fun k hk j hj => by rw [Nat.zero_add]; exact (own_cell linC_len h k j hk hj).1⟩⟩
set_option maxHeartbeats 1000000 in
theorem idx_lin (l : List Lin) (ao : Option Addr) (cap : Nat) (w : World) (h : LinsC w ao l) (hl : l.length ≤ 1000000) (f : Nat) (lb : Array Value) (p : Lin → Bool) (ef : ∀ args w, (callFunc f args).run Try.prog w = .ok (.enter f args) w)
    (hf : ∀ (e : Lin) (W : World), Below w.heap.size w W → Calls Try.prog f (#[linV e] ++ lb) W fun r w' => r = .returned (.bool (p e)) ∧ Below W.heap.size W w') :
    Calls Try.prog 37 #[.slice ao l.length cap, .func (.func f) #[] lb] w fun r w' => ∃ i : Int, r = .returned (.int .i64 i) ∧ Found p l i ∧ Below w.heap.size w w' := by
  have HF : Hid (∀ (e : Lin) (W : World), Below w.heap.size w W → Calls Try.prog f (#[linV e] ++ lb) W fun r w' => r = .returned (.bool (p e)) ∧ Below W.heap.size W w') := hf
  have HL : Hid (LinsC w ao l) := h
  clear hf h
  go_enter Try.func37, Try.ntmps37
  go_wp2
  go_loopw [8] (fun i wr => ∃ k : Nat, k ≤ l.length ∧ i = .int .i64 k ∧ Hid (∀ j (hj : j < l.length), j < k → p l[j] = false) ∧ Below w.heap.size w wr) (fun i _ => l.length - (intOf i).toNat)
  case atStart => exact ⟨0, Nat.zero_le _, rfl, fun j _ hj => absurd hj (Nat.not_lt_zero _), Below.refl _ _⟩
  case round =>
    obtain ⟨k, hk, rfl, HN, hb⟩ := hrel
    by_cases hlt : k < l.length
    · obtain ⟨g, o, hao, hg, hc⟩ := HL.out.below hb (by omega)
      subst hao
      obtain ⟨x, hx⟩ : ∃ x, x = l[k] := ⟨_, rfl⟩
      have hcw : ∀ j, j < 5 → wr.cell? ⟨g, o + k * 5 + j, none⟩ = (linC x)[j]? := fun j hj => by rw [hc k hlt j hj, hx]
      have HY : Hid (l[k] = x) := hx.symm
      have hcall := HF.out x wr hb
      unfold linV at hcall
      obtain ⟨id, val, short, late, gain⟩ := x
      have q0 := hcw 0 (by omega)
      have q1 := hcw 1 (by omega)
      have q2 := hcw 2 (by omega)
      have q3 := hcw 3 (by omega)
      have q4 := hcw 4 (by omega)
      simp only [linC, List.getElem?_cons_zero, List.getElem?_cons_succ, Nat.add_zero] at q0 q1 q2 q3 q4
      simp only at hcall
      clear hcw hc hx
      generalize hpv : p ⟨id, val, short, late, gain⟩ = pv at hcall
      have HPV : Hid (p l[k] = pv) := by rw [HY.out]; exact hpv
      clear hpv
      go_wp2_with fail
      refine hcall.mono ?_
      rintro e w1 ⟨rfl, hb1⟩
      have hb2 : Below w.heap.size w w1 := hb.trans (hb1.mono hb.size)
      clear hcall q0 q1 q2 q3 q4
      cases pv with
      | true =>
        go_wp2
        go_ret
        exact ⟨k, rfl, Or.inr ⟨k, hlt, rfl, HPV.out, HN.out⟩, hb2⟩
      | false =>
        go_wp2
        go_roundw
        case rel =>
          refine ⟨k + 1, by omega, by go_num, fun j hj hjk => ?_, hb2⟩
          rcases Nat.lt_or_eq_of_le (Nat.le_of_lt_succ hjk) with x | x
          · exact HN.out j hj x
          · subst x; exact HPV.out
        case measure => simp [intOf]; omega
    · obtain rfl : k = l.length := by omega
      go_wp2
      go_ret
      exact ⟨-1, rfl, Or.inl ⟨rfl, fun y hy => by
        obtain ⟨j, hj, rfl⟩ := List.getElem_of_mem hy
        exact HN.out j hj hj⟩, hb⟩
theorem nil_eqL (w : World) : (binOp BinOp.eql 32 (.slice none 0 0) (.slice none 0 0)).run Try.prog w = .ok (.bool true) w := by kernel_rfl
theorem some_eqL (a : Addr) (n c : Nat) (w : World) : (binOp BinOp.eql 32 (.slice (some a) n c) (.slice none 0 0)).run Try.prog w = .ok (.bool false) w := rfl
set_option maxHeartbeats 1000000 in
theorem clone_lin {B : Nat} (l : List Lin) (v : Value) (w : World) (h : w.ownsRow B 45 5 v l.length (l.flatMap linC)) (hl : l.length ≤ 1000) :
    Calls Try.prog 24 #[v] w fun r w' => ∃ v' : Value, r = .returned v' ∧ w'.ownsRow w.heap.size 45 5 v' l.length (l.flatMap linC) ∧ Below w.heap.size w w' := by
  obtain ⟨i0, hi, hz0, hz1, hz2⟩ := info_parts Try.infoLin
  rcases own_form h with ⟨hv, hn, _⟩ | ⟨g, cap, hv, _, hgl, _⟩
  · subst hv
    have hz : l = [] := List.length_eq_zero_iff.1 hn
    subst hz
    go_enter Try.func24, Try.ntmps24
    have hne := nil_eqL
    go_wp2
    go_ret
    exact ⟨_, rfl, World.ownsRow_nil _ _ _ _, Below.refl _ _⟩
  · subst hv
    have hcs := h.cells (g := g) rfl
    have HCS : Hid (∀ j u, (l.flatMap linC)[j]? = some u → w.cell? ((⟨g, 0, none⟩ : Addr).add j) = some u) := hcs
    have hfl := flat_len linC 5 linC_len l
    clear h hcs
    have hE : (w.alloc (.cells #[] 45)).ownsRow w.heap.size 45 5 (.slice (some ⟨w.heap.size, 0, none⟩) 0 0) 0 [] :=
      ⟨rfl, Or.inr ⟨w.heap.size, 0, #[], rfl, Nat.le_refl _, heap_alloc_new w _, Nat.le_refl _, Nat.zero_le _, rfl, rfl⟩⟩
    have HE : Hid _ := hE
    clear hE
    go_enter Try.func24, Try.ntmps24
    have hne := some_eqL
    go_wp2_with (first
      | (at_builtin; refine wpList_append_own _ rfl _ _ 32 rfl w.heap.size 45 i0 linZ 5 40 Try.underlying32 hi hz0 hz1 hz2 rfl (by decide) _ _ _ rfl HE.out ⟨g, 0, none⟩ l.length cap (l.flatMap linC) rfl (by rw [hfl]) ?d1 ?d2 ?d3 ?d4 ?d5 ?_)
      | go_in)
    case d1 =>
      intro j u hj
      have hadd : (⟨g, 0, none⟩ : Addr).add j = ⟨g, j, none⟩ := by unfold Addr.add; split <;> simp_all
      have := HCS.out j u hj
      rw [hadd] at this
      exact this
    case d2 =>
      intro u e _ he
      exact linC_one e u he
    case d3 => unfold maxLen; omega
    case d4 => omega
    intro v' w3 hown3 hgr _
    have HB3 : Hid (Below w.heap.size w w3) := ((Below.refl w.heap.size w).alloc (Nat.le_refl _) _).grown hgr (by simp) (fun j hj => by simp [Value.ownBlock] at hj; omega)
    clear hgr
    go_wp2
    go_ret
    exact ⟨_, rfl, hown3, HB3.out⟩
/-- One line written over another. -/
theorem own_putLin {w : World} {B g n cap : Nat} {c : List Lin} (h : w.ownsRow B 45 5 (.slice (some ⟨g, 0, none⟩) n cap) n (c.flatMap linC)) (i : Nat) (hi : i < c.length) (e : Lin) :
    (((((w.setCell ⟨g, i * 5, none⟩ (.int .i64 e.id)).setCell ⟨g, i * 5 + 1, none⟩ (.int .i64 e.val)).setCell ⟨g, i * 5 + 2, none⟩ (.int .i64 e.short)).setCell ⟨g, i * 5 + 3, none⟩ (.int .i64 e.late)).setCell ⟨g, i * 5 + 4, none⟩ (.bool e.gain)).ownsRow B 45 5 (.slice (some ⟨g, 0, none⟩) n cap) n ((c.set i e).flatMap linC) := by
  obtain ⟨id, val, short, late, gain⟩ := e
  have st : ∀ (c' : List Lin) (W : World) (j : Nat) (u : Value) (y : Lin) (hi' : i < c'.length), j < 5 → linC y = (linC c'[i]).set j u → W.ownsRow B 45 5 (.slice (some ⟨g, 0, none⟩) n cap) n (c'.flatMap linC) → (W.setCell ⟨g, i * 5 + j, none⟩ u).ownsRow B 45 5 (.slice (some ⟨g, 0, none⟩) n cap) n ((c'.set i y).flatMap linC) := fun c' W j u y hi' hj hy ho => by
    rw [flatMap_set linC 5 linC_len j u hj y c' i hi' hy]
    exact own_set ho _ u
  obtain ⟨x, hx⟩ : ∃ x, x = c[i] := ⟨_, rfl⟩
  obtain ⟨a0, a1, a2, a3, a4⟩ := x
  have s0 := st c w 0 (.int .i64 id) ⟨id, a1, a2, a3, a4⟩ hi (by omega) (by rw [← hx]; rfl) h
  rw [Nat.add_zero] at s0
  have s1 := st _ _ 1 (.int .i64 val) ⟨id, val, a2, a3, a4⟩ (by simpa using hi) (by omega) (by rw [List.getElem_set_self]; rfl) s0
  rw [List.set_set] at s1
  have s2 := st _ _ 2 (.int .i64 short) ⟨id, val, short, a3, a4⟩ (by simpa using hi) (by omega) (by rw [List.getElem_set_self]; rfl) s1
  rw [List.set_set] at s2
  have s3 := st _ _ 3 (.int .i64 late) ⟨id, val, short, late, a4⟩ (by simpa using hi) (by omega) (by rw [List.getElem_set_self]; rfl) s2
  rw [List.set_set] at s3
  have s4 := st _ _ 4 (.bool gain) ⟨id, val, short, late, gain⟩ (by simpa using hi) (by omega) (by rw [List.getElem_set_self]; rfl) s3
  rw [List.set_set] at s4
  exact s4
theorem grown_putLin (w : World) (g o0 o1 o2 o3 o4 : Nat) (v0 v1 v2 v3 v4 : Value) : w.grownBy (((((w.setCell ⟨g, o0, none⟩ v0).setCell ⟨g, o1, none⟩ v1).setCell ⟨g, o2, none⟩ v2).setCell ⟨g, o3, none⟩ v3).setCell ⟨g, o4, none⟩ v4) (some g) := by
  have st : ∀ (W : World) (o : Nat) (v : Value), W.grownBy (W.setCell ⟨g, o, none⟩ v) (some g) := fun W o v => ⟨rfl, rfl, rfl, by simp [World.setCell], fun k _ hk => Below.heap_setCell _ _ _ _ (fun e => hk (by rw [e]))⟩
  have tr : ∀ {a b c : World}, a.grownBy b (some g) → b.grownBy c (some g) → a.grownBy c (some g) := fun h h' => ⟨h'.os.trans h.os, h'.tape.trans h.tape, h'.output.trans h.output, Nat.le_trans h.size h'.size, fun k hk hne => (h'.block k (Nat.lt_of_lt_of_le hk h.size) hne).trans (h.block k hk hne)⟩
  exact tr (tr (tr (tr (st _ _ _) (st _ _ _)) (st _ _ _)) (st _ _ _)) (st _ _ _)
/-- clear of what stands behind the first i. -/
theorem clear_lin {w : World} {B g n cap i : Nat} {c : List Lin} (h : w.ownsRow B 45 5 (.slice (some ⟨g, 0, none⟩) n cap) n (c.flatMap linC)) (hi : i < c.length) (cc : Nat) (ty : TypeId) :
    ∃ w', (Builtin.clear_ #[32] ty #[.slice (some ⟨g, i * 5, none⟩) (n - i) cc]).run Try.prog w = .ok (.tuple #[]) w' ∧ w'.ownsRow B 45 5 (.slice (some ⟨g, 0, none⟩) i cap) i ((c.take i).flatMap linC) ∧ w.grownBy w' (some g) := by
  have hn : n = c.length := own_count linC_len (by omega) h
  rcases h.2 with ⟨hv, _⟩ | ⟨g', cap', cur, hv, hB, hg, hnc, hcm, hs, ht⟩
  · cases hv
  · cases hv
    have hz : (zeroValue 45).run Try.prog w = .ok linZ w := by kernel_rfl
    have hzc : (Builtin.zeroCells linZ.cells (n - i)).toList.length = (n - i) * 5 := by
      rw [Array.length_toList, size_zeroCells]; rfl
    have hone : ∀ u ∈ (Builtin.zeroCells linZ.cells (n - i)).toList, u.oneCell' = true := by
      intro u hu
      simp only [Builtin.zeroCells, Array.mem_toList_iff, Array.mem_map] at hu
      obtain ⟨j, _, rfl⟩ := hu
      have h7 : linZ.cells.size = 5 := rfl
      have hj : j % linZ.cells.size < 5 := by rw [h7]; exact Nat.mod_lt _ (by omega)
      generalize j % linZ.cells.size = m at hj
      have hm : m = 0 ∨ m = 1 ∨ m = 2 ∨ m = 3 ∨ m = 4 := by omega
      rcases hm with rfl | rfl | rfl | rfl | rfl <;> rfl
    have hst := run_storeCells_at Try.prog g (i * 5) 45 (Builtin.zeroCells linZ.cells (n - i)).toList 0 cur w hg (by rw [hzc]; omega) hone
    simp only [Nat.add_zero] at hst
    refine ⟨w.setRow g (cur.toList.take (i * 5) ++ (Builtin.zeroCells linZ.cells (n - i)).toList ++ cur.toList.drop (i * 5 + (Builtin.zeroCells linZ.cells (n - i)).toList.length)).toArray, ?_, ?_, ?_⟩
    rotate_left
    · refine ⟨by rw [flat_len linC 5 linC_len, List.length_take]; omega, Or.inr ⟨g, cap, _, rfl, hB, setRow_heap w g cur _ _ _ hg, by omega, hcm, ?_, ?_⟩⟩
      · simp only [List.size_toArray, List.length_append, List.length_take, List.length_drop, Array.length_toList, hzc]
        omega
      · have e1 : (c.flatMap linC).take (i * 5) = (c.take i).flatMap linC := by
          conv => lhs; rw [← List.take_append_drop i c, List.flatMap_append]
          rw [List.take_append_of_le_length (by rw [flat_len linC 5 linC_len, List.length_take]; omega), List.take_of_length_le (by rw [flat_len linC 5 linC_len, List.length_take]; omega)]
        rw [← e1, ← ht, List.take_take, Nat.min_eq_left (by omega)]
        simp only [List.append_assoc]
        rw [List.take_append_of_le_length (by rw [List.length_take, Array.length_toList]; omega), List.take_take, Nat.min_self]
    · exact ⟨rfl, rfl, rfl, by simp, fun k _ hk => setRow_other w g k _ (fun e => hk (by rw [e]))⟩
    · have hni : ∃ m, n - i = m + 1 := ⟨n - i - 1, by omega⟩
      obtain ⟨m, hm⟩ := hni
      rw [hm] at hst ⊢
      simp [Builtin.clear_, run_underlying Try.underlying32, hz, hst]
/-- What is kept, as far as it was gone through: the first i; from j on all stand as they stood. -/
structure KeptL (p : Lin → Bool) (l c : List Lin) (i j : Nat) : Prop where
  len : c.length = l.length
  le : i < j
  jl : j ≤ l.length
  pre : c.take i = (l.take j).filter fun e => !p e
  post : ∀ t, j ≤ t → c[t]? = l[t]?
theorem KeptL.start {p : Lin → Bool} {l : List Lin} {k : Nat} (hk : k < l.length) (hp : p l[k] = true) (hn : ∀ j (hj : j < l.length), j < k → p l[j] = false) : KeptL p l l k (k + 1) := by
  refine ⟨rfl, by omega, by omega, ?_, fun _ _ => rfl⟩
  rw [List.take_succ_eq_append_getElem hk, List.filter_append]
  have e1 : [l[k]].filter (fun e => !p e) = [] := by simp [hp]
  have e2 : (l.take k).filter (fun e => !p e) = l.take k := by
    rw [List.filter_eq_self]
    intro e he
    obtain ⟨j, hj, rfl⟩ := List.getElem_of_mem he
    rw [List.length_take] at hj
    rw [List.getElem_take, hn j (by omega) (by omega)]; rfl
  rw [e1, e2, List.append_nil]
theorem KeptL.skip {p : Lin → Bool} {l c : List Lin} {i j : Nat} (h : KeptL p l c i j) (hj : j < l.length) (hp : p l[j] = true) : KeptL p l c i (j + 1) := by
  refine ⟨h.len, by have := h.le; omega, by omega, ?_, fun t ht => h.post t (by omega)⟩
  rw [h.pre, List.take_succ_eq_append_getElem hj, List.filter_append]
  simp [hp]
theorem KeptL.keep {p : Lin → Bool} {l c : List Lin} {i j : Nat} (h : KeptL p l c i j) (hj : j < l.length) (hp : p l[j] = false) : KeptL p l (c.set i l[j]) (i + 1) (j + 1) := by
  have hi : i < c.length := by rw [h.len]; have := h.le; omega
  refine ⟨by rw [List.length_set]; exact h.len, by have := h.le; omega, by omega, ?_, fun t ht => ?_⟩
  · rw [List.take_succ_eq_append_getElem (by rw [List.length_set]; exact hi), List.take_set_of_le (Nat.le_refl _), List.getElem_set_self, h.pre, List.take_succ_eq_append_getElem hj, List.filter_append]
    simp [hp]
  · rw [List.getElem?_set_ne (by have := h.le; omega)]
    exact h.post t (by omega)
set_option maxRecDepth 20000 in
set_option maxHeartbeats 4000000 in
theorem del_lin {B : Nat} (l : List Lin) (v : Value) (w : World) (h : w.ownsRow B 45 5 v l.length (l.flatMap linC)) (hl : l.length ≤ 1000) (f : Nat) (lb : Array Value) (p : Lin → Bool) (ef : ∀ args w, (callFunc f args).run Try.prog w = .ok (.enter f args) w)
    (hf : ∀ (e : Lin) (W : World), w.grownBy W v.ownBlock → Calls Try.prog f (#[linV e] ++ lb) W fun r w' => r = .returned (.bool (p e)) ∧ Below W.heap.size W w') :
    Calls Try.prog 23 #[v, .func (.func f) #[] lb] w fun r w' => ∃ v' : Value, r = .returned v' ∧ w'.ownsRow B 45 5 v' (l.filter fun e => !p e).length ((l.filter fun e => !p e).flatMap linC) ∧ w.grownBy w' v.ownBlock := by
  have HF : Hid (∀ (e : Lin) (W : World), w.grownBy W v.ownBlock → Calls Try.prog f (#[linV e] ++ lb) W fun r w' => r = .returned (.bool (p e)) ∧ Below W.heap.size W w') := hf
  have HO : Hid (w.ownsRow B 45 5 v l.length (l.flatMap linC)) := h
  obtain ⟨ao, cap, hv, hc⟩ := lins_of_own h
  have hix := idx_lin l ao cap w hc (by omega) f lb p ef (fun e W hb => hf e W ⟨hb.os, hb.tape, hb.output, hb.size, fun k hk _ => hb.block k hk⟩)
  clear hf h hc
  subst hv
  go_enter Try.func23, Try.ntmps23
  go_wp2_with fail
  refine hix.mono ?_
  rintro r w1 ⟨i, rfl, hfd, hb1⟩
  have own1 := own_below HO.out hb1 (Nat.le_refl _)
  have hg1 : w.grownBy w1 (Value.ownBlock (.slice ao l.length cap)) := ⟨hb1.os, hb1.tape, hb1.output, hb1.size, fun k hk _ => hb1.block k hk⟩
  clear hix
  rcases hfd with ⟨rfl, hno⟩ | ⟨k0, hk0, rfl, hp0, hn0⟩
  · have hfl : l.filter (fun e => !p e) = l := by
      rw [List.filter_eq_self]
      intro e he
      rw [hno e he]; rfl
    have HFL : Hid (l.filter (fun e => !p e) = l) := hfl
    clear hfl hno
    go_wp2
    go_ret
    exact ⟨_, rfl, by rw [HFL.out]; exact own1, hg1⟩
  · rcases own_form own1 with ⟨_, hn, _⟩ | ⟨g, cap', hv, hBg, hgl, hcl, hcm⟩
    · omega
    · simp only [Value.slice.injEq] at hv
      obtain ⟨rfl, _, rfl⟩ := hv
      have HST : Hid (KeptL p l l k0 (k0 + 1)) := KeptL.start hk0 hp0 hn0
      have HOWN1 : Hid (w1.ownsRow B 45 5 (.slice (some ⟨g, 0, none⟩) l.length cap) l.length (l.flatMap linC)) := own1
      have HG1 : Hid (w.grownBy w1 (some g)) := hg1
      clear own1 hg1 hp0 hn0
      have hk1 : ((k0 : Int) == -1) = false := by rw [beq_eq_false_iff_ne]; omega
      go_wp2
      clear hk1
      go_loopw [5, 6] (fun vi vj wr => ∃ (i j : Nat) (c : List Lin), vi = .int .i64 i ∧ vj = .int .i64 j ∧ Hid (KeptL p l c i j) ∧ Hid (wr.ownsRow B 45 5 (.slice (some ⟨g, 0, none⟩) l.length cap) l.length (c.flatMap linC)) ∧ Hid (w.grownBy wr (some g))) (fun _ vj _ => l.length - (intOf vj).toNat)
      case atStart => exact ⟨k0, k0 + 1, l, rfl, by go_num, HST, HOWN1, HG1⟩
      case round =>
        obtain ⟨i, j, c, rfl, rfl, HK, HOW, HG⟩ := hrel
        have hij := HK.out.le
        have hjl := HK.out.jl
        have hcl2 := HK.out.len
        by_cases hlt : j < l.length
        · obtain ⟨x, hx⟩ : ∃ x, x = l[j] := ⟨_, rfl⟩
          have hcj : c[j]'(by omega) = x := by
            have := HK.out.post j (Nat.le_refl _)
            rw [List.getElem?_eq_getElem hlt, List.getElem?_eq_getElem (by omega)] at this
            rw [hx]; exact Option.some.inj this
          have hcw : ∀ t, t < 5 → wr.cell? ⟨g, j * 5 + t, none⟩ = (linC x)[t]? := fun t ht => by
            rw [← hcj]; exact (own_cell linC_len HOW.out j t (by omega) ht).1
          have hsk := fun hp => HK.out.skip hlt hp
          have hkp := fun hp => HK.out.keep hlt hp
          rw [← hx] at hsk hkp
          have HSK : Hid _ := hsk
          have HKP : Hid _ := hkp
          obtain ⟨W1, hW1⟩ : ∃ W, W = wr.alloc (.cells (linC x).toArray 45) := ⟨_, rfl⟩
          have hb1 : Below wr.heap.size wr W1 := by rw [hW1]; exact (Below.refl _ _).alloc (Nat.le_refl _) _
          have hE1 : LinAt W1 wr.heap.size x := by rw [hW1]; constructor <;> simp [linC]
          have hgW1 : w.grownBy W1 (some g) := ⟨hb1.os.trans HG.out.os, hb1.tape.trans HG.out.tape, hb1.output.trans HG.out.output, Nat.le_trans HG.out.size hb1.size, fun t ht hne => (hb1.block t (by have := HG.out.size; omega)).trans (HG.out.block t ht hne)⟩
          have hcall := HF.out x W1 hgW1
          unfold linV at hcall
          obtain ⟨id, val, short, late, gain⟩ := x
          have q0 := hcw 0 (by omega)
          have q1 := hcw 1 (by omega)
          have q2 := hcw 2 (by omega)
          have q3 := hcw 3 (by omega)
          have q4 := hcw 4 (by omega)
          simp only [linC, List.getElem?_cons_zero, List.getElem?_cons_succ, Nat.add_zero] at q0 q1 q2 q3 q4
          simp only at hcall
          have HW1 : Hid (W1 = wr.alloc (.cells #[.int .i64 id, .int .i64 val, .int .i64 short, .int .i64 late, .bool gain] 45)) := hW1
          clear hW1 hcw hsk hkp hcj hx
          generalize hpv : p ⟨id, val, short, late, gain⟩ = pv at hcall
          have HPV : Hid (p ⟨id, val, short, late, gain⟩ = pv) := hpv
          clear hpv
          go_wp2_with fail
          rw [← HW1.out]
          refine hcall.mono ?_
          rintro e w2 ⟨rfl, hb2⟩
          have hb12 : Below wr.heap.size wr w2 := hb1.trans (hb2.mono hb1.size)
          have own2 := own_below HOW.out hb12 (Nat.le_refl _)
          have HG2 : Hid (w.grownBy w2 (some g)) := ⟨hb12.os.trans HG.out.os, hb12.tape.trans HG.out.tape, hb12.output.trans HG.out.output, Nat.le_trans HG.out.size hb12.size, fun t ht hne => (hb12.block t (by have := HG.out.size; omega)).trans (HG.out.block t ht hne)⟩
          have HOW2 : Hid (w2.ownsRow B 45 5 (.slice (some ⟨g, 0, none⟩) l.length cap) l.length (c.flatMap linC)) := own2
          clear hcall q0 q1 q2 q3 q4
          cases pv with
          | true =>
            clear own2
            go_wp2
            go_roundw
            case rel => exact ⟨i, j + 1, c, rfl, by go_num, HSK.out HPV.out, HOW2, HG2⟩
            case measure => simp [intOf]; omega
          | false =>
            have hE2 := hE1.below hb2
            have c0 := hE2.c0
            have c1 := hE2.c1
            have c2 := hE2.c2
            have c3 := hE2.c3
            have c4 := hE2.c4
            simp only at c0 c1 c2 c3 c4
            have hic : i < c.length := by omega
            have pc := fun t ht => own_cell linC_len own2 i t hic ht
            have hii : (i : Int) < (l.length : Int) := by omega
            have hput := own_putLin own2 i hic ⟨id, val, short, late, gain⟩
            have HPUT : Hid _ := hput
            have p0 := (pc 0 (by omega))
            have p1 := (pc 1 (by omega))
            have p2 := (pc 2 (by omega))
            have p3 := (pc 3 (by omega))
            have p4 := (pc 4 (by omega))
            simp only [linC, List.getElem?_cons_zero, List.getElem?_cons_succ, Nat.add_zero] at p0 p1 p2 p3 p4
            obtain ⟨p0, z0⟩ := p0
            obtain ⟨p1, z1⟩ := p1
            obtain ⟨p2, z2⟩ := p2
            obtain ⟨p3, z3⟩ := p3
            obtain ⟨p4, z4⟩ := p4
            clear pc hput own2
            go_wp2
            go_roundw
            case rel =>
              refine ⟨i + 1, j + 1, _, by go_num, by go_num, HKP.out HPV.out, HPUT.out, ?_⟩
              have := grown_putLin w2 g (i * 5) (i * 5 + 1) (i * 5 + 2) (i * 5 + 3) (i * 5 + 4) (.int .i64 id) (.int .i64 val) (.int .i64 short) (.int .i64 late) (.bool gain)
              exact ⟨this.os.trans HG2.out.os, this.tape.trans HG2.out.tape, this.output.trans HG2.out.output, Nat.le_trans HG2.out.size this.size, fun t ht hne => (this.block t (by have := HG2.out.size; omega) hne).trans (HG2.out.block t ht hne)⟩
            case measure => simp [intOf]; omega
        · obtain rfl : j = l.length := by omega
          have hic : i < c.length := by omega
          have hne1 : ¬ cap = i := by omega
          have hne0 : ¬ cap = 0 := by omega
          have hpre := HK.out.pre
          rw [List.take_length] at hpre
          have hil : i = (l.filter fun e => !p e).length := by rw [← hpre, List.length_take]; omega
          have HPRE : Hid (c.take i = l.filter (fun e => !p e) ∧ i = (l.filter fun e => !p e).length) := ⟨hpre, hil⟩
          have hii : (i : Int) ≤ (l.length : Int) := by omega
          have hic2 : (i : Int) ≤ (cap : Int) := by omega
          clear hpre hil
          obtain ⟨w3, hclr, own3, g3⟩ := clear_lin HOW.out hic (cap - i) 0
          have HOWN3 : Hid (w3.ownsRow B 45 5 (.slice (some ⟨g, 0, none⟩) i cap) i ((c.take i).flatMap linC)) := own3
          have HG3 : Hid (w.grownBy w3 (some g)) := ⟨g3.os.trans HG.out.os, g3.tape.trans HG.out.tape, g3.output.trans HG.out.output, Nat.le_trans HG.out.size g3.size, fun t ht hne => (g3.block t (by have := HG.out.size; omega) hne).trans (HG.out.block t ht hne)⟩
          clear own3 g3
          go_wp2
          go_ret
          refine ⟨.slice (some ⟨g, 0, none⟩) i cap, rfl, ?_, HG3.out⟩
          rw [← HPRE.out.2, ← HPRE.out.1]
          exact HOWN3.out
theorem neq_lin (a b c d : Int) (g : Bool) (w : World) : (binOp BinOp.neq 45 (.agg #[.int .i64 a, .int .i64 b, .int .i64 c, .int .i64 d, .bool g]) (.agg #[.int .i64 a, .int .i64 b, .int .i64 c, .int .i64 d, .bool g])).run Try.prog w = .ok (.bool false) w := by
  have hS : Try.prog.underlying 45 = some (.struct (Try.prog.fieldsOf 45)) := by kernel_rfl
  have hp : Try.prog.stoodInHeld 45 = false := by kernel_rfl
  have u3 := Try.underlying3
  have a3 := Try.isAgg3
  have z3 := Try.sizeOf3
  have u4 := Try.underlying4
  have a4 := Try.isAgg4
  have z4 := Try.sizeOf4
  rw [run_neq_struct, show (10000 : Nat) = 9999 + 1 from rfl, run_equalIn_agg w 9999 45 _ _ hS hp]
  simp only [Program.fieldsOf, Try.underlying45]
  go_simp
set_option maxHeartbeats 1000000 in
theorem eqLin_c (ys : List Lin) (a1 a2 : Option Addr) (c1 c2 : Nat) (w : World) (h1 : LinsC w a1 ys) (h2 : LinsC w a2 ys) (hl : ys.length ≤ 1000000) :
    Calls Try.prog 18 #[.slice a1 ys.length c1, .slice a2 ys.length c2] w fun r w' => r = .returned (.bool true) ∧ ∃ m, w' = w.drewN m := by
  have H1 : Hid (LinsC w a1 ys) := h1
  have H2 : Hid (LinsC w a2 ys) := h2
  clear h1 h2
  go_enter Try.func18, Try.ntmps18
  go_wp2
  go_loopw [13] (fun i wr => ∃ k : Nat, k ≤ ys.length ∧ i = .int .i64 k ∧ ∃ m, wr = w.drewN m) (fun i _ => ys.length - (intOf i).toNat)
  case atStart => exact ⟨0, Nat.zero_le _, rfl, 0, rfl⟩
  case round =>
    obtain ⟨k, hk, rfl, m0, hwr⟩ := hrel
    have hb : Below w.heap.size w wr := by rw [hwr]; exact ⟨rfl, rfl, rfl, Nat.le_refl _, fun _ _ => rfl⟩
    have HWR : Hid (wr = w.drewN m0) := hwr
    clear hwr
    by_cases hlt : k < ys.length
    · obtain ⟨g, o, hao, hg, hc⟩ := H1.out.below hb (by omega)
      obtain ⟨g2, o2, hao2, hg2, hc2⟩ := H2.out.below hb (by omega)
      subst hao hao2
      have p0 := hc k hlt 0 (by omega)
      have p1 := hc k hlt 1 (by omega)
      have p2 := hc k hlt 2 (by omega)
      have p3 := hc k hlt 3 (by omega)
      have p4 := hc k hlt 4 (by omega)
      have q0 := hc2 k hlt 0 (by omega)
      have q1 := hc2 k hlt 1 (by omega)
      have q2 := hc2 k hlt 2 (by omega)
      have q3 := hc2 k hlt 3 (by omega)
      have q4 := hc2 k hlt 4 (by omega)
      clear hc hc2
      generalize ys[k] = y at p0 p1 p2 p3 p4 q0 q1 q2 q3 q4
      obtain ⟨id, val, short, late, gain⟩ := y
      simp only [linC, List.getElem?_cons_zero, List.getElem?_cons_succ, Nat.add_zero] at p0 p1 p2 p3 p4 q0 q1 q2 q3 q4
      have hne := neq_lin id val short late gain
      have mixed := csP.mixed
      go_wp2_with fail
      go_quiet (fail)
      go_wp2
      go_roundw
      case rel => exact ⟨k + 1, by omega, by go_num, m0 + nq, by rw [HWR.out, World.drewN_drewN]⟩
      case measure => simp [intOf]; omega
    · obtain rfl : k = ys.length := by omega
      go_wp2
      go_ret
      exact ⟨rfl, m0, HWR.out⟩
theorem eqLin_any (ys : List Lin) {B1 B2 : Nat} (v1 v2 : Value) (w : World) (h1 : w.ownsRow B1 45 5 v1 ys.length (ys.flatMap linC)) (h2 : w.ownsRow B2 45 5 v2 ys.length (ys.flatMap linC)) (hl : ys.length ≤ 1000000) :
    Calls Try.prog 18 #[v1, v2] w fun r w' => r = .returned (.bool true) ∧ ∃ m, w' = w.drewN m := by
  obtain ⟨a1, c1, e1, l1⟩ := lins_of_own h1
  obtain ⟨a2, c2, e2, l2⟩ := lins_of_own h2
  subst e1 e2
  exact eqLin_c ys a1 a2 c1 c2 w l1 l2 hl
end Go.Proofs.Ytgjjfeimgbibjaa
