/- The walk of tallymankeep.told. -/
import Derived.Test.YtmldaiofghpfdaaKpClone
import Derived.Test.YtmldaiofghpfdaaKpMath
import Derived.Test.YtmldaiofghpfdaaCoSum
namespace Go.Proofs.Ytmldaiofghpfdaa
open Go.RowKit
open Go.Sort hiding Below
def tA : ByteArray := ⟨#[97]⟩
def t1 : Ev := ⟨1, tA, 1, 2, 10, 0, 1⟩
def t2 : Ev := ⟨2, tA, 1, 2, 30, 0, 2⟩
def t3 : Ev := ⟨3, tA, 3, 3, 0, 0, 3⟩
theorem tA_name : isName tA.data.toList := by
  refine ⟨⟨by decide, by decide⟩, fun c hc => ?_, fun c hc => ?_⟩
  · have : c = 97 := by simpa [tA] using hc.symm
    subst this; exact ⟨by decide, by decide⟩
  · have : c = 97 := by simpa [tA] using hc
    subst this; exact Or.inl ⟨by decide, by decide⟩
theorem t1_rt : Rt t1 := ⟨tA_name, by simp [t1], Or.inl (by simp [t1])⟩
theorem t2_rt : Rt t2 := ⟨tA_name, by simp [t2], Or.inl (by simp [t2])⟩
theorem t3_rt : Rt t3 := ⟨tA_name, by simp [t3], Or.inr (Or.inr (Or.inl (by simp [t3])))⟩
/-- What stands in its order stays so. -/
theorem stl_self {l : List Ev} (h : l.Pairwise fun x y => ltA y x = false) : stl l = l := by
  have e := stl_of (l := l) (ps := l.zipIdx) (List.Perm.refl _) ?_
  · rw [← e, List.zipIdx_map_fst]
  · rw [List.pairwise_iff_getElem] at h ⊢
    intro i j hi hj hij
    have hi' : i < l.length := by simpa using hi
    have hj' : j < l.length := by simpa using hj
    have := h i j hi' hj' hij
    unfold ltP
    simp only [List.getElem_zipIdx, this, Bool.false_or, Nat.zero_add]
    rw [show decide (j < i) = false by simp; omega]
    simp
theorem told_ord : ordd [t1, t2, t3] = [t1, t2, t3] := by
  unfold ordd
  have e : [t1, t2, t3].filter rtB = [t1, t2, t3] := by
    simp [(rtB_iff t1).2 t1_rt, (rtB_iff t2).2 t2_rt, (rtB_iff t3).2 t3_rt]
  rw [e]
  refine stl_self ?_
  simp only [List.pairwise_cons, List.mem_cons, List.not_mem_nil, or_false, forall_eq_or_imp, forall_eq]
  refine ⟨⟨?_, ?_⟩, ?_, ?_⟩ <;> first | rfl | simp
theorem told_L : goL stk00 [t1, t2, t3] = [⟨1, 20, 0, 0, false⟩, ⟨2, 60, 0, 0, false⟩, ⟨3, 50, 0, 0, false⟩] := by rfl
theorem told_S : (goS stk00 [t1, t2, t3] tA).ys = [⟨2, 1, 30⟩] := by rfl
theorem told_w : ∀ e ∈ [t1, t2, t3], EvW e := by
  intro e he
  simp only [List.mem_cons, List.not_mem_nil, or_false] at he
  rcases he with rfl | rfl | rfl <;> exact ⟨by decide, by decide, by decide, by decide, by decide, by decide, by decide⟩
set_option maxHeartbeats 2000000 in
theorem told_any (w : World) : Calls Try.prog 5 #[] w fun r w' => r = .returned (.bool true) ∧ Below w.heap.size w w' := by
  obtain ⟨W0, hW0⟩ : ∃ W, W = w.alloc (.cells #[.int .i64 1, .string ⟨#[97]⟩, .int .i64 1, .int .i64 2, .int .i64 10, .int .i64 0, .int .i64 1, .int .i64 2, .string ⟨#[97]⟩, .int .i64 1, .int .i64 2, .int .i64 30, .int .i64 0, .int .i64 2, .int .i64 3, .string ⟨#[97]⟩, .int .i64 3, .int .i64 3, .int .i64 0, .int .i64 0, .int .i64 3] 36) := ⟨_, rfl⟩
  have hB0 : Below w.heap.size w W0 := by rw [hW0]; exact (Below.refl _ _).alloc (Nat.le_refl _) _
  have hE : EvsAt W0 (.slice (some ⟨w.heap.size, 0, none⟩) 3 3) [t1, t2, t3] := by
    refine Or.inr ⟨w.heap.size, 0, 3, rfl, by rw [hW0]; simp, fun k j hk hj => ?_⟩
    have hk' : k = 0 ∨ k = 1 ∨ k = 2 := by simp at hk; omega
    have hj' : j = 0 ∨ j = 1 ∨ j = 2 ∨ j = 3 ∨ j = 4 ∨ j = 5 ∨ j = 6 := by omega
    rw [hW0]
    rcases hk' with rfl | rfl | rfl <;> rcases hj' with rfl | rfl | rfl | rfl | rfl | rfl | rfl <;> simp [evC, t1, t2, t3, tA]
  have hrun := run_any [t1, t2, t3] _ W0 hE told_w (by simp)
  rw [told_ord, told_L] at hrun
  have HW0 : Hid (W0 = _) := hW0
  clear hW0 hE
  go_enter Try.func5, Try.ntmps5
  go_wp2_with fail
  rw [← HW0.out]
  refine hrun.mono ?_
  rintro r w1 ⟨rv, rfl, hres, hb1⟩
  have hok := (goS_ok [t1, t2, t3] 0 stk00 (fun y => stk0_ok 0) (fun e he => by
    simp only [List.mem_cons, List.not_mem_nil, or_false] at he
    rcases he with rfl | rfl | rfl
    · exact t1_rt
    · exact t2_rt
    · exact t3_rt)).1 tA
  obtain ⟨u, mb, n, D, V, rfl, h2, h3, h4⟩ := hres
  rcases own_form h4.own with ⟨_, hn, _⟩ | ⟨g, cap, hu, _, hgl, _⟩
  · cases hn
  · subst hu
    have HRES : Hid (ResAt W0.heap.size w1 (.agg #[.slice (some ⟨g, 0, none⟩) 3 cap, .map (some mb)]) (goS stk00 [t1, t2, t3]) [⟨1, 20, 0, 0, false⟩, ⟨2, 60, 0, 0, false⟩, ⟨3, 50, 0, 0, false⟩]) := ⟨_, mb, n, D, V, rfl, h2, h3, h4⟩
    have hsum := fun W (hb : Below w1.heap.size w1 W) => Sum_any (HRES.out.below hb) tA (by decide) hok (by simp)
    rw [told_S] at hsum
    simp only [sumQ, sumV] at hsum
    have hc : w1.cell? ⟨g, 11, none⟩ = some (.int .i64 50) := (own_cell linC_len h4.own 2 1 (by simp) (by omega)).1
    obtain ⟨w2, hw2⟩ : ∃ W, W = w1.alloc (.cells #[.slice (some ⟨g, 0, none⟩) 3 cap, .map (some mb)] 29) := ⟨_, rfl⟩
    have hb2 : Below w1.heap.size w1 w2 := by rw [hw2]; exact (Below.refl _ _).alloc (Nat.le_refl _) _
    have r0 : w2.cell? ⟨w1.heap.size, 0, none⟩ = some (.slice (some ⟨g, 0, none⟩) 3 cap) := by rw [hw2]; simp
    have hs2 := hsum w2 hb2
    have hs1 : w1.heap.size < w2.heap.size := by rw [hw2]; simp
    have HW2 : Hid (w2 = _) := hw2
    clear hok h2 h3 hsum hw2 h4
    simp only [List.length_cons, List.length_nil]
    go_wp2_with fail
    rw [← HW2.out]
    refine hs2.mono ?_
    rintro r w3 ⟨rfl, hb3⟩
    have c0 := (hb3.cell (p := ⟨w1.heap.size, 0, none⟩) hs1).trans r0
    have c1 := (hb3.cell (p := ⟨g, 11, none⟩) (by have := hb2.size; show g < _; omega)).trans ((hb2.cell (p := ⟨g, 11, none⟩) hgl).trans hc)
    have hB3 : Below w.heap.size w w3 := (hB0.trans (hb1.mono hB0.size)).trans ((hb2.mono (by have := hb1.size; have := hB0.size; omega)).trans (hb3.mono (by have := hb1.size; have := hB0.size; have := hb2.size; omega)))
    clear hs2 hrun hc r0
    go_wp2
    go_ret
    exact ⟨rfl, hB3⟩
end Go.Proofs.Ytmldaiofghpfdaa
