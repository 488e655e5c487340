/- What stands between the operations of tallymankeep.CostEmpties that make three results at once, in whatever order. -/
import Derived.Test.YtmldaiofghpfdaaKpLook
import Derived.Test.YtmldaiofghpfdaaKpTold
import Derived.Test.YtmldaiofghpfdaaRowOrd
import Derived.Test.YtmldaiofghpfdaaMixI
namespace Go.Proofs.Ytmldaiofghpfdaa.costEmpties
open Go.Proofs.Ytmldaiofghpfdaa
open Go.RowKit Go.Shelf Go.Maps
/-- All up to block n is as it was. -/
def Upto (n : Nat) (w w' : World) : Prop := ∀ k, k < n → w'.heap[k]? = w.heap[k]?
theorem upto_refl (n : Nat) (w : World) : Upto n w w := fun _ _ => rfl
theorem upto_trans (n : Nat) (a b c : World) (h : Upto n a b) (h' : Upto n b c) : Upto n a c := fun k hk => (h' k hk).trans (h k hk)
/-- Something holds, and whatever else is turned: it looks at these blocks alone. -/
structure Holds (F : Nat → Prop) (S : World → Prop) (w : World) : Prop where
  now : S w
  lt : ∀ k, F k → k < w.heap.size
  still : ∀ w', (∀ k, F k → w'.heap[k]? = w.heap[k]?) → w.heap.size ≤ w'.heap.size → S w'
theorem Holds.keep {F : Nat → Prop} {S : World → Prop} {w w' : World} (h : Holds F S w) (hk : ∀ k, F k → w'.heap[k]? = w.heap[k]?) (hs : w.heap.size ≤ w'.heap.size) : Holds F S w' :=
  ⟨h.still w' hk hs, fun k hF => Nat.lt_of_lt_of_le (h.lt k hF) hs, fun w'' h2 hs2 => h.still w'' (fun k hF => (h2 k hF).trans (hk k hF)) (Nat.le_trans hs hs2)⟩
def Fr (w w' : World) (k : Nat) : Prop := w.heap.size ≤ k ∧ k < w'.heap.size
def slots : List Nat := [77, 78, 79, 80, 81, 82, 83, 84, 85, 86, 87, 88, 89, 90, 91, 92, 93, 94, 12, 13, 14]
structure Agree (a0 a : Act) : Prop where
  defers : a.defers = a0.defers
  size : a.tmps.size = a0.tmps.size
  at_ : ∀ t, t ∉ slots → a.tmps[t]? = a0.tmps[t]?
theorem put_size (a : Act) (d : Nat) (v : Value) : (a.put (some d) v).tmps.size = a.tmps.size := by simp [Act.put]
theorem Agree.put {a0 a : Act} (h : Agree a0 a) {d : Nat} (hd : d ∈ slots) (v : Value) : Agree a0 (a.put (some d) v) := by
  refine ⟨h.defers, (put_size a d v).trans h.size, fun t ht => ?_⟩
  have hne : d ≠ t := fun e => ht (e ▸ hd)
  rw [← h.at_ t ht]
  simp [Act.put, Array.getElem?_setIfInBounds_ne hne]
theorem eval_same {a : Act} {d : Nat} {v : Value} (hd : d < a.tmps.size) : (a.put (some d) v).eval (.tmp d) = v := by
  simp [Act.put, Act.eval, hd]
theorem eval_other {a : Act} {d t : Nat} {v : Value} (hne : d ≠ t) : (a.put (some d) v).eval (.tmp t) = a.eval (.tmp t) := by
  simp [Act.put, Act.eval, Array.getElem?_setIfInBounds_ne hne]
theorem fold_put (a : Act) (t : Nat) : ∀ (S : List Nat) (b : Act), ((S.foldl (fun x s => x.put (some s) (a.eval (.tmp s))) b).tmps[t]? = if t ∈ S ∧ t < b.tmps.size then some (a.eval (.tmp t)) else b.tmps[t]?) ∧ (S.foldl (fun x s => x.put (some s) (a.eval (.tmp s))) b).tmps.size = b.tmps.size ∧ (S.foldl (fun x s => x.put (some s) (a.eval (.tmp s))) b).defers = b.defers
  | [], b => by simp
  | s :: S, b => by
    have ih := fold_put a t S (b.put (some s) (a.eval (.tmp s)))
    rw [put_size] at ih
    rw [List.foldl_cons]
    refine ⟨ih.1.trans ?_, ih.2.1, ih.2.2⟩
    by_cases e : s = t
    · subst e
      by_cases h : s < b.tmps.size
      · simp [Act.put, h]
      · simp [Act.put, h]
    · have : (b.put (some s) (a.eval (.tmp s))).tmps[t]? = b.tmps[t]? := by simp [Act.put, Array.getElem?_setIfInBounds_ne e]
      rw [this]
      have e' : ¬ t = s := fun x => e x.symm
      simp [e']
theorem act_ext {a b : Act} (h1 : ∀ t : Nat, a.tmps[t]? = b.tmps[t]?) (h2 : a.defers = b.defers) : a = b := by
  obtain ⟨ta, da⟩ := a
  obtain ⟨tb, db⟩ := b
  have : ta = tb := Array.ext_getElem? h1
  simp only at h2
  subst this h2
  rfl
/-- A frame that agrees: the one before it, with those slots written anew. -/
theorem Agree.is {a0 a : Act} (h : Agree a0 a) : a = slots.foldl (fun x s => x.put (some s) (a.eval (.tmp s))) a0 := by
  refine act_ext (fun t => ?_) (h.defers.trans (fold_put a 0 slots a0).2.2.symm)
  rw [(fold_put a t slots a0).1]
  by_cases hm : t ∈ slots
  · by_cases hl : t < a0.tmps.size
    · rw [if_pos ⟨hm, hl⟩]
      have hl2 : t < a.tmps.size := by rw [h.size]; exact hl
      simp [Act.eval, hl2]
    · rw [if_neg (fun x => hl x.2)]
      rw [Array.getElem?_eq_none (by rw [h.size]; omega), Array.getElem?_eq_none (by omega)]
  · rw [if_neg (fun x => hm x.1)]
    exact h.at_ t hm
section
variable (es : Nat → Ev) (L : List Ev) (lv : Value) (B : Nat) (w0 : World)
def SRes (j : Nat) (v : Value) (w : World) : Prop := ∃ lo, ResAt lo w v (goS stk00 (ordd (L ++ [es j]))) (goL stk00 (ordd (L ++ [es j])))
def SRow (v : Value) (ys : List Ev) (w : World) : Prop := w.ownsRow B 36 7 v ys.length (ys.flatMap evC)
def SBld (j : Nat) (v : Value) (w : World) : Prop := ∃ g, v = .slice (some ⟨g, 0, none⟩) 1 1 ∧ ∀ i u, (evC (es j))[i]? = some u → w.cell? ⟨g, i, none⟩ = some u
def SBox (v : Value) (F : Nat → Prop) (w : World) : Prop := ∃ g, v = .pointer (some ⟨g, 0, none⟩) ∧ F g ∧ w.heap[g]? = some (.cells #[.slice none 0 0, .map none] 29)
/-- What holds when p of the nine calls have come, and those of f have been made. -/
structure JI (a0 : Act) (p : Nat) (f : List Bool) (a : Act) (w : World) (F : Nat → Nat → Prop) (val : Nat → Value) : Prop where
  ag : Agree a0 a
  sz : 95 ≤ a.tmps.size
  lv : ∀ j, j < 3 → a.eval (.tmp (77 + 6 * j)) = lv
  le : ∀ j, j < 3 → a.eval (.tmp (79 + 6 * j)) = evV (es j)
  up : Upto B w0 w
  le0 : w0.heap.size = B
  le1 : B ≤ w.heap.size
  oth : w.os = w0.os ∧ w.tape = w0.tape ∧ w.output = w0.output
  dis : ∀ q q' k, q ≠ q' → F q k → ¬ F q' k
  bnd : ∀ q k, F q k → B ≤ k ∧ k < w.heap.size
  res : ∀ j, j < 3 → 3 * j + 2 < p → a.eval (.tmp (82 + 6 * j)) = val j ∧ Holds (F j) (SRes es L j (val j)) w
  row1 : p % 3 = 1 → a.eval (.tmp (78 + 6 * (p / 3))) = val 3 ∧ (∀ k, (val 3).ownBlock = some k → F 3 k) ∧ Holds (F 3) (SRow B (val 3) L) w
  row2 : p % 3 = 2 → a.eval (.tmp (81 + 6 * (p / 3))) = val 3 ∧ (∀ k, (val 3).ownBlock = some k → F 3 k) ∧ Holds (F 3) (SRow B (val 3) (L ++ [es (p / 3)])) w
  bld : ∀ j, j < 3 → f[j]? = some true → a.eval (.tmp (80 + 6 * j)) = val (4 + j) ∧ Holds (F (4 + j)) (SBld es j (val (4 + j))) w
  box : ∀ j, j < 3 → f[3 + j]? = some true → a.eval (.tmp (12 + j)) = val (7 + j) ∧ Holds (F (7 + j)) (SBox (val (7 + j)) (F (7 + j))) w
end
def newF (F : Nat → Nat → Prop) (q0 : Nat) (w w' : World) (q k : Nat) : Prop := if q = q0 then Fr w w' k ∨ (q = 3 ∧ F 3 k) else F q k
def newV (val : Nat → Value) (q0 : Nat) (v : Value) (q : Nat) : Value := if q = q0 then v else val q
theorem newF_dis {F : Nat → Nat → Prop} {q0 B : Nat} {w w' : World} (dis : ∀ q q' k, q ≠ q' → F q k → ¬ F q' k) (bnd : ∀ q k, F q k → B ≤ k ∧ k < w.heap.size) : ∀ q q' k, q ≠ q' → newF F q0 w w' q k → ¬ newF F q0 w w' q' k := fun q q' k hne h h' => by
  unfold newF Fr at h h'
  by_cases e : q = q0
  · have e' : ¬ q' = q0 := fun x => hne (e.trans x.symm)
    rw [if_pos e] at h
    rw [if_neg e'] at h'
    have := (bnd q' k h').2
    rcases h with h | ⟨rfl, h⟩
    · omega
    · exact dis 3 q' k hne h h'
  · rw [if_neg e] at h
    have := (bnd q k h).2
    by_cases e' : q' = q0
    · rw [if_pos e'] at h'
      rcases h' with h' | ⟨rfl, h'⟩
      · omega
      · exact dis q 3 k hne h h'
    · rw [if_neg e'] at h'
      exact dis q q' k hne h h'
theorem newF_bnd {F : Nat → Nat → Prop} {q0 B : Nat} {w w' : World} (bnd : ∀ q k, F q k → B ≤ k ∧ k < w.heap.size) (hB : B ≤ w.heap.size) (hs : w.heap.size ≤ w'.heap.size) : ∀ q k, newF F q0 w w' q k → B ≤ k ∧ k < w'.heap.size := fun q k h => by
  unfold newF Fr at h
  split at h
  · rcases h with h | ⟨_, h⟩
    · omega
    · have := bnd 3 k h; omega
  · have := bnd q k h; omega
/-- Another thing stays, while one is made. -/
theorem other {F : Nat → Nat → Prop} {q0 q : Nat} {w w' : World} {S : World → Prop} (h : Holds (F q) S w) (hne : q ≠ q0) (dis : ∀ q q' k, q ≠ q' → F q k → ¬ F q' k) (hs : w.heap.size ≤ w'.heap.size) (hc : ∀ k, k < w.heap.size → (q0 = 3 → ¬ F 3 k) → w'.heap[k]? = w.heap[k]?) : Holds (newF F q0 w w' q) S w' := by
  have e : newF F q0 w w' q = F q := by funext k; unfold newF; rw [if_neg hne]
  rw [e]
  exact h.keep (fun k hF => hc k (h.lt k hF) fun e3 => dis q 3 k (by rw [← e3]; exact hne) hF) hs
end Go.Proofs.Ytmldaiofghpfdaa.costEmpties
