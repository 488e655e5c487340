/- One operation more of those of tallymankeep.CostEmpties that make three results at once. -/
import Derived.Test.YtmldaiofghpfdaaKpEmptI
namespace Go.Proofs.Ytmldaiofghpfdaa.costEmpties
open Go.Proofs.Ytmldaiofghpfdaa
open Go.RowKit Go.Shelf Go.Maps
section
variable {es : Nat → Ev} {L : List Ev} {lv : Value} {B : Nat} {w0 : World} {a0 : Act} {p : Nat} {f : List Bool} {a : Act} {w : World} {F : Nat → Nat → Prop} {val : Nat → Value}
theorem JI.next (h : JI es L lv B w0 a0 p f a w F val) {p' : Nat} {f' : List Bool} {d q0 : Nat} {v : Value} {w' : World} (hd : d ∈ slots) (hd2 : d < 95) (hdl : ∀ j, j < 3 → d ≠ 77 + 6 * j ∧ d ≠ 79 + 6 * j) (hs : w.heap.size ≤ w'.heap.size) (ho : w'.os = w.os ∧ w'.tape = w.tape ∧ w'.output = w.output) (hc : ∀ k, k < w.heap.size → (q0 = 3 → ¬ F 3 k) → w'.heap[k]? = w.heap[k]?)
    (hres : ∀ j, j < 3 → 3 * j + 2 < p' → (j ≠ q0 ∧ 3 * j + 2 < p ∧ d ≠ 82 + 6 * j) ∨ (j = q0 ∧ d = 82 + 6 * j ∧ Holds (newF F q0 w w' j) (SRes es L j v) w'))
    (hrow1 : p' % 3 = 1 → (3 ≠ q0 ∧ p = p' ∧ d ≠ 78 + 6 * (p' / 3)) ∨ (3 = q0 ∧ d = 78 + 6 * (p' / 3) ∧ (∀ k, v.ownBlock = some k → newF F q0 w w' 3 k) ∧ Holds (newF F q0 w w' 3) (SRow B v L) w'))
    (hrow2 : p' % 3 = 2 → (3 ≠ q0 ∧ p = p' ∧ d ≠ 81 + 6 * (p' / 3)) ∨ (3 = q0 ∧ d = 81 + 6 * (p' / 3) ∧ (∀ k, v.ownBlock = some k → newF F q0 w w' 3 k) ∧ Holds (newF F q0 w w' 3) (SRow B v (L ++ [es (p' / 3)])) w'))
    (hbld : ∀ j, j < 3 → f'[j]? = some true → (4 + j ≠ q0 ∧ f[j]? = some true ∧ d ≠ 80 + 6 * j) ∨ (4 + j = q0 ∧ d = 80 + 6 * j ∧ Holds (newF F q0 w w' (4 + j)) (SBld es j v) w'))
    (hbox : ∀ j, j < 3 → f'[3 + j]? = some true → (7 + j ≠ q0 ∧ f[3 + j]? = some true ∧ d ≠ 12 + j) ∨ (7 + j = q0 ∧ d = 12 + j ∧ Holds (newF F q0 w w' (7 + j)) (SBox v (newF F q0 w w' (7 + j))) w')) :
    JI es L lv B w0 a0 p' f' (a.put (some d) v) w' (newF F q0 w w') (newV val q0 v) := by
  have hsz := h.sz
  have vne : ∀ q, q ≠ q0 → newV val q0 v q = val q := fun q e => by unfold newV; rw [if_neg e]
  have veq : newV val q0 v q0 = v := by unfold newV; rw [if_pos rfl]
  have Fne : ∀ q, q ≠ q0 → newF F q0 w w' q = F q := fun q e => by funext k; unfold newF; rw [if_neg e]
  refine ⟨h.ag.put hd v, by rw [put_size]; exact hsz, fun j hj => by rw [eval_other (hdl j hj).1]; exact h.lv j hj, fun j hj => by rw [eval_other (hdl j hj).2]; exact h.le j hj, fun k hk => ?_, h.le0, Nat.le_trans h.le1 hs, ⟨ho.1.trans h.oth.1, ho.2.1.trans h.oth.2.1, ho.2.2.trans h.oth.2.2⟩, newF_dis h.dis h.bnd, newF_bnd h.bnd h.le1 hs, fun j hj hp => ?_, fun hp => ?_, fun hp => ?_, fun j hj hf => ?_, fun j hj hf => ?_⟩
  · rw [hc k (by have := h.le1; omega) (fun _ hF => by have := (h.bnd 3 k hF).1; omega)]
    exact h.up k hk
  · rcases hres j hj hp with ⟨n1, n2, n3⟩ | ⟨rfl, n2, n3⟩
    · rw [eval_other n3, vne j n1]
      have := h.res j hj n2
      exact ⟨this.1, other this.2 n1 h.dis hs hc⟩
    · rw [n2, eval_same (by omega), veq]
      exact ⟨rfl, n3⟩
  · rcases hrow1 hp with ⟨n1, rfl, n3⟩ | ⟨rfl, n2, n3, n4⟩
    · rw [eval_other n3, vne 3 n1]
      have := h.row1 hp
      rw [Fne 3 n1]
      refine ⟨this.1, this.2.1, ?_⟩
      have o := other (w' := w') this.2.2 n1 h.dis hs hc
      rw [Fne 3 n1] at o
      exact o
    · rw [n2, eval_same (by omega), veq]
      exact ⟨rfl, n3, n4⟩
  · rcases hrow2 hp with ⟨n1, rfl, n3⟩ | ⟨rfl, n2, n3, n4⟩
    · rw [eval_other n3, vne 3 n1]
      have := h.row2 hp
      rw [Fne 3 n1]
      refine ⟨this.1, this.2.1, ?_⟩
      have o := other (w' := w') this.2.2 n1 h.dis hs hc
      rw [Fne 3 n1] at o
      exact o
    · rw [n2, eval_same (by omega), veq]
      exact ⟨rfl, n3, n4⟩
  · rcases hbld j hj hf with ⟨n1, n2, n3⟩ | ⟨n1, n2, n3⟩
    · rw [eval_other n3, vne _ n1]
      have := h.bld j hj n2
      exact ⟨this.1, other this.2 n1 h.dis hs hc⟩
    · rw [n2, eval_same (by omega), n1, veq]
      rw [n1] at n3
      exact ⟨rfl, n3⟩
  · rcases hbox j hj hf with ⟨n1, n2, n3⟩ | ⟨n1, n2, n3⟩
    · rw [eval_other n3, vne _ n1]
      have := h.box j hj n2
      refine ⟨this.1, ?_⟩
      have o := other (w' := w') this.2 n1 h.dis hs hc
      rw [Fne _ n1] at o ⊢
      exact o
    · rw [n2, eval_same (by omega), n1, veq]
      rw [n1] at n3
      exact ⟨rfl, n3⟩
theorem build_run (e : Ev) (w : World) : (Instr.buildSlice 22 1 #[(0, evV e)]).run Try.prog w = .ok (.slice (some ⟨w.heap.size, 0, none⟩) 1 1) (w.alloc (.cells (evC e).toArray 36)) := by
  obtain ⟨id, item, kind, qty, price, ofI, day⟩ := e
  unfold evV evC
  simp only
  go_simp
theorem box_run (w : World) : (Instr.alloc 29 true (.tuple #[])).run Try.prog w = .ok (.pointer (some ⟨w.heap.size, 0, none⟩)) (w.alloc (.cells #[.slice none 0 0, .map none] 29)) := by
  go_simp
theorem own_mono {w : World} {B B' : Nat} {T : TypeId} {m n : Nat} {v : Value} {xs : List Value} (h : w.ownsRow B T m v n xs) (hB : B' ≤ B) : w.ownsRow B' T m v n xs := by
  refine ⟨h.1, ?_⟩
  rcases h.2 with hn | ⟨g, cap, cur, hv, hb, rest⟩
  · exact Or.inl hn
  · exact Or.inr ⟨g, cap, cur, hv, Nat.le_trans hB hb, rest⟩
theorem holds_row {F : Nat → Prop} {B : Nat} {v : Value} {ys : List Ev} {w : World} (h : w.ownsRow B 36 7 v ys.length (ys.flatMap evC)) (hlt : ∀ k, F k → k < w.heap.size) (hv : ∀ k, v.ownBlock = some k → F k) : Holds F (SRow B v ys) w :=
  ⟨h, hlt, fun _ hk _ => row_same h fun k e => hk k (hv k e)⟩
theorem holds_res {F : Nat → Prop} {lo : Nat} {v : Value} {j : Nat} {w : World} (h : ResAt lo w v (goS stk00 (ordd (L ++ [es j]))) (goL stk00 (ordd (L ++ [es j])))) (hlt : ∀ k, F k → k < w.heap.size) (hF : ∀ k, lo ≤ k → k < w.heap.size → F k) : Holds F (SRes es L j v) w := by
  refine ⟨⟨lo, h⟩, hlt, fun w' hk _ => ⟨lo, ?_⟩⟩
  obtain ⟨u, mb, n, D, V, h1, h2, h3, h4⟩ := h
  refine ⟨u, mb, n, D, V, h1, h2, h3, map_same h4.map (hk mb (hF mb h2 h4.map.lt)), h4.no, h4.yes, fun x => (h4.lay x).kept fun k e => hk k (hF k (h3 x k e) ((h4.lay x).lt e)), row_same h4.own fun k e => hk k (hF k (h4.own.lt k e).1 (h4.own.lt k e).2)⟩
theorem newF_self {q0 : Nat} {w' : World} {k : Nat} (h : Fr w w' k) : newF F q0 w w' q0 k := by
  unfold newF; rw [if_pos rfl]; exact Or.inl h
theorem slot_mem {d : Nat} (h : (77 ≤ d ∧ d ≤ 94) ∨ (12 ≤ d ∧ d ≤ 14)) : d ∈ slots := by
  have : d = 77 ∨ d = 78 ∨ d = 79 ∨ d = 80 ∨ d = 81 ∨ d = 82 ∨ d = 83 ∨ d = 84 ∨ d = 85 ∨ d = 86 ∨ d = 87 ∨ d = 88 ∨ d = 89 ∨ d = 90 ∨ d = 91 ∨ d = 92 ∨ d = 93 ∨ d = 94 ∨ d = 12 ∨ d = 13 ∨ d = 14 := by omega
  simpa [slots] using this
def opIs (ops : Array Oper) (i d : Nat) (op : Op) : Prop := ∃ o, ops[i]? = some o ∧ o.guard = none ∧ o.dst = some d ∧ o.op = op
variable {ops : Array Oper}
theorem step_build (h : JI es L lv B w0 a0 p f a w F val) (j : Nat) (hj : j < 3) (ho : opIs ops (3 + 6 * j) (80 + 6 * j) (.buildSlice 22 1 #[(0, .tmp (79 + 6 * j))])) :
    kOp Try.prog ops (Upto B) (3 + 6 * j) (fun a' w' => ∃ F' val', JI es L lv B w0 a0 p (f.set j true) a' w' F' val') a w := by
  obtain ⟨o, h1, h2, h3, h4⟩ := ho
  refine kOp_of h1 (list_build h2 _ _ h4 _ _ (by rw [h.le j hj]; exact build_run (es j) w) ?_ ?_)
  · intro k hk
    have := h.le1
    exact ((Below.refl w.heap.size w).alloc (Nat.le_refl _) _).block k (by omega)
  · rw [h3]
    have hb : Below w.heap.size w (w.alloc (.cells (evC (es j)).toArray 36)) := (Below.refl _ _).alloc (Nat.le_refl _) _
    refine ⟨_, _, h.next (q0 := 4 + j) (slot_mem (by omega)) (by omega) (fun i hi => by omega) hb.size ⟨hb.os, hb.tape, hb.output⟩ (fun k hk _ => hb.block k hk) (fun i hi hp => Or.inl ⟨by omega, hp, by omega⟩) (fun hp => Or.inl ⟨by omega, rfl, by omega⟩) (fun hp => Or.inl ⟨by omega, rfl, by omega⟩) (fun i hi hf => ?_) (fun i hi hf => Or.inl ⟨by omega, by rw [List.getElem?_set_ne (by omega)] at hf; exact hf, by omega⟩)⟩
    by_cases e : i = j
    · subst e
      refine Or.inr ⟨rfl, rfl, ⟨⟨w.heap.size, rfl, fun t u ht => ?_⟩, fun k hk => (newF_bnd h.bnd h.le1 hb.size _ k hk).2, fun w' hk _ => ⟨w.heap.size, rfl, fun t u ht => ?_⟩⟩⟩
      · simp [evC] at ht ⊢
        exact ht
      · refine (World.cell?_of_block (a := ⟨w.heap.size, t, none⟩) (hk w.heap.size (newF_self ⟨Nat.le_refl _, by simp⟩))).trans ?_
        simp [evC] at ht ⊢
        exact ht
    · exact Or.inl ⟨by omega, by rw [List.getElem?_set_ne (by omega)] at hf; exact hf, by omega⟩
theorem step_box (h : JI es L lv B w0 a0 p f a w F val) (j : Nat) (hj : j < 3) (ho : opIs ops (18 + j) (12 + j) (.alloc 29)) :
    kOp Try.prog ops (Upto B) (18 + j) (fun a' w' => ∃ F' val', JI es L lv B w0 a0 p (f.set (3 + j) true) a' w' F' val') a w := by
  obtain ⟨o, h1, h2, h3, h4⟩ := ho
  refine kOp_of h1 (list_alloc h2 _ h4 _ _ (box_run w) ?_ ?_)
  · intro k hk
    have := h.le1
    exact ((Below.refl w.heap.size w).alloc (Nat.le_refl _) _).block k (by omega)
  · rw [h3]
    have hb : Below w.heap.size w (w.alloc (.cells #[.slice none 0 0, .map none] 29)) := (Below.refl _ _).alloc (Nat.le_refl _) _
    refine ⟨_, _, h.next (q0 := 7 + j) (slot_mem (by omega)) (by omega) (fun i hi => by omega) hb.size ⟨hb.os, hb.tape, hb.output⟩ (fun k hk _ => hb.block k hk) (fun i hi hp => Or.inl ⟨by omega, hp, by omega⟩) (fun hp => Or.inl ⟨by omega, rfl, by omega⟩) (fun hp => Or.inl ⟨by omega, rfl, by omega⟩) (fun i hi hf => Or.inl ⟨by omega, by rw [List.getElem?_set_ne (by omega)] at hf; exact hf, by omega⟩) (fun i hi hf => ?_)⟩
    by_cases e : i = j
    · subst e
      have hF : newF F (7 + i) w (w.alloc (.cells #[.slice none 0 0, .map none] 29)) (7 + i) w.heap.size := newF_self ⟨Nat.le_refl _, by simp⟩
      exact Or.inr ⟨rfl, rfl, ⟨⟨w.heap.size, rfl, hF, heap_alloc_new w _⟩, fun k hk => (newF_bnd h.bnd h.le1 hb.size _ k hk).2, fun w' hk _ => ⟨w.heap.size, rfl, hF, by rw [hk _ hF]; exact heap_alloc_new w _⟩⟩⟩
    · exact Or.inl ⟨by omega, by rw [List.getElem?_set_ne (by omega)] at hf; exact hf, by omega⟩
theorem step_clone (h : JI es L lv B w0 a0 p f a w F val) {b2 : Nat} (hL : w0.ownsRow b2 36 7 lv L.length (L.flatMap evC)) (hLl : L.length ≤ 40) (j : Nat) (hj : j < 3) (hp : p = 3 * j) (ho : opIs ops (1 + 6 * j) (78 + 6 * j) (.call { callee := .value (.func 12), args := #[.tmp (77 + 6 * j)], argTypes := #[22] })) :
    kOp Try.prog ops (Upto B) (1 + 6 * j) (fun a' w' => ∃ F' val', JI es L lv B w0 a0 (3 * j + 1) f a' w' F' val') a w := by
  obtain ⟨o, h1, h2, h3, h4⟩ := ho
  have hle := h.le1
  have hle0 := h.le0
  have own : w.ownsRow b2 36 7 lv L.length (L.flatMap evC) := row_same hL fun k e => h.up k (by have := (hL.lt k e).2; omega)
  refine kOp_of h1 (list_call h2 _ _ _ h4 (enters_of Try.func12 (by kernel_rfl) rfl) ?_)
  rw [h.lv j hj, h3]
  refine (clone_any L lv w own (by omega)).mono ?_
  rintro r w' ⟨v, rfl, hown, hb⟩
  have hv : ∀ k, v.ownBlock = some k → newF F 3 w w' 3 k := fun k e => newF_self (hown.lt k e)
  refine ⟨v, rfl, fun k hk => hb.block k (by omega), _, _, h.next (q0 := 3) (slot_mem (by omega)) (by omega) (fun i hi => by omega) hb.size ⟨hb.os, hb.tape, hb.output⟩ (fun k hk _ => hb.block k hk) (fun i hi hp' => Or.inl ⟨by omega, by omega, by omega⟩) (fun _ => Or.inr ⟨rfl, by omega, hv, holds_row (own_mono hown hle) (fun k hk => (newF_bnd h.bnd h.le1 hb.size _ k hk).2) hv⟩) (fun hp' => by omega) (fun i hi hf => Or.inl ⟨by omega, hf, by omega⟩) (fun i hi hf => Or.inl ⟨by omega, hf, by omega⟩)⟩
theorem step_run (h : JI es L lv B w0 a0 p f a w F val) (hew : ∀ j, j < 3 → ∀ e ∈ L ++ [es j], EvW e) (hLl : L.length ≤ 40) (j : Nat) (hj : j < 3) (hp : p = 3 * j + 2) (ho : opIs ops (5 + 6 * j) (82 + 6 * j) (.call { callee := .value (.func 7), args := #[.tmp (81 + 6 * j)], argTypes := #[22] })) :
    kOp Try.prog ops (Upto B) (5 + 6 * j) (fun a' w' => ∃ F' val', JI es L lv B w0 a0 (3 * j + 3) f a' w' F' val') a w := by
  obtain ⟨o, h1, h2, h3, h4⟩ := ho
  have hle := h.le1
  have hr := h.row2 (by omega)
  rw [show p / 3 = j by omega] at hr
  refine kOp_of h1 (list_call h2 _ _ _ h4 (enters_of Try.func7 (by kernel_rfl) rfl) ?_)
  rw [hr.1, h3]
  refine (run_any (L ++ [es j]) (val 3) w (EvsAt.of_own hr.2.2.now) (hew j hj) (by simp; omega)).mono ?_
  rintro r w' ⟨v, rfl, hres, hb⟩
  refine ⟨v, rfl, fun k hk => hb.block k (by omega), _, _, h.next (q0 := j) (slot_mem (by omega)) (by omega) (fun i hi => by omega) hb.size ⟨hb.os, hb.tape, hb.output⟩ (fun k hk _ => hb.block k hk) (fun i hi hp' => ?_) (fun hp' => by omega) (fun hp' => by omega) (fun i hi hf => Or.inl ⟨by omega, hf, by omega⟩) (fun i hi hf => Or.inl ⟨by omega, hf, by omega⟩)⟩
  by_cases e : i = j
  · subst e
    exact Or.inr ⟨rfl, rfl, holds_res hres (fun k hk => (newF_bnd h.bnd h.le1 hb.size _ k hk).2) (fun k h1 h2 => newF_self ⟨h1, h2⟩)⟩
  · exact Or.inl ⟨e, by omega, by omega⟩
theorem step_append (h : JI es L lv B w0 a0 p f a w F val) (hLl : L.length ≤ 40) (j : Nat) (hj : j < 3) (hp : p = 3 * j + 1) (hf : f[j]? = some true) (ho : opIs ops (4 + 6 * j) (81 + 6 * j) (.call { callee := .builtin .append, args := #[.tmp (78 + 6 * j), .tmp (80 + 6 * j)], argTypes := #[22, 22] })) :
    kOp Try.prog ops (Upto B) (4 + 6 * j) (fun a' w' => ∃ F' val', JI es L lv B w0 a0 (3 * j + 2) f a' w' F' val') a w := by
  obtain ⟨o, h1, h2, h3, h4⟩ := ho
  have hle := h.le1
  have hr := h.row1 (by omega)
  rw [show p / 3 = j by omega] at hr
  obtain ⟨hb1, hb2⟩ := h.bld j hj hf
  obtain ⟨g, hg, hcell⟩ := hb2.now
  rw [hg] at hb1
  obtain ⟨i0, hi, hz0, hz1, hz2⟩ := info_parts Try.infoEv
  refine kOp_of h1 (wpList_append_own_at w h2 _ _ 22 h4 B 36 i0 evZ 7 64 Try.underlying22 hi hz0 hz1 hz2 rfl (by decide) (val 3) _ _ hr.1 hr.2.2.now ⟨g, 0, none⟩ 1 1 (evC (es j)) hb1 rfl (fun t u ht => ?_) (evC_one (es j)) (by unfold maxLen; omega) (by omega) hle ?_)
  · have hadd : (⟨g, 0, none⟩ : Addr).add t = ⟨g, t, none⟩ := by unfold Addr.add; split <;> simp_all
    rw [hadd]
    exact hcell t u ht
  · intro v w' hown hgr _ hblk
    have hlen : L.length + 1 = (L ++ [es j]).length := by simp
    have hfl : L.flatMap evC ++ evC (es j) = (L ++ [es j]).flatMap evC := by simp
    rw [hlen, hfl] at hown
    have hv : ∀ k, v.ownBlock = some k → newF F 3 w w' 3 k := fun k e => by
      unfold newF
      rw [if_pos rfl]
      rcases hblk with x | x
      · exact Or.inr ⟨rfl, hr.2.1 k (by rw [← x]; exact e)⟩
      · rw [x] at e
        cases e
        exact Or.inl ⟨Nat.le_refl _, (hown.lt _ x).2⟩
    have hnb : ∀ k, ¬ F 3 k → some k ≠ (val 3).ownBlock := fun k hk e => hk (hr.2.1 k e.symm)
    refine ⟨rfl, fun k hk => hgr.block k (by omega) (hnb k fun x => by have := (h.bnd 3 k x).1; omega), ?_⟩
    rw [h3]
    refine ⟨_, _, h.next (q0 := 3) (slot_mem (by omega)) (by omega) (fun i hi => by omega) hgr.size ⟨hgr.os, hgr.tape, hgr.output⟩ (fun k hk hn => hgr.block k hk (hnb k (hn rfl))) (fun i hi hp' => Or.inl ⟨by omega, by omega, by omega⟩) (fun hp' => by omega) (fun _ => Or.inr ⟨rfl, by omega, hv, ?_⟩) (fun i hi hf => Or.inl ⟨by omega, hf, by omega⟩) (fun i hi hf => Or.inl ⟨by omega, hf, by omega⟩)⟩
    rw [show (3 * j + 2) / 3 = j by omega]
    exact holds_row hown (fun k hk => (newF_bnd h.bnd h.le1 hgr.size _ k hk).2) hv
end
end Go.Proofs.Ytmldaiofghpfdaa.costEmpties
