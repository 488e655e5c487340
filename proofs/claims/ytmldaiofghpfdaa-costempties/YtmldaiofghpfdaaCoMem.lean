/- Layers in memory: a slice that may begin in the midst of its row; a stock. -/
import Derived.Test.YtmldaiofghpfdaaCoMath
import Derived.Test.YtmldaiofghpfdaaTurnMem
namespace Go.Proofs.Ytmldaiofghpfdaa
open Go.RowKit
def layC (y : Lay) : List Value := [.int .i64 y.id, .int .i64 y.qty, .int .i64 y.val]
def linC (y : Lin) : List Value := [.int .i64 y.id, .int .i64 y.val, .int .i64 y.short, .int .i64 y.late, .bool y.gain]
theorem layC_len (y : Lay) : (layC y).length = 3 := rfl
theorem linC_len (y : Lin) : (linC y).length = 5 := rfl
theorem layC_one (y : Lay) : ∀ u ∈ layC y, u.oneCell' = true := by
  intro u hu
  simp only [layC, List.mem_cons, List.not_mem_nil, or_false] at hu
  rcases hu with rfl | rfl | rfl <;> rfl
theorem linC_one (y : Lin) : ∀ u ∈ linC y, u.oneCell' = true := by
  intro u hu
  simp only [linC, List.mem_cons, List.not_mem_nil, or_false] at hu
  rcases hu with rfl | rfl | rfl | rfl | rfl <;> rfl
/-- The slice v holds these layers, in a row of its own, from some place on. -/
def LayAt (w : World) (v : Value) (ys : List Lay) : Prop :=
  (v = .slice none 0 0 ∧ ys = []) ∨ ∃ g o cap cur, v = .slice (some ⟨g, o, none⟩) ys.length cap ∧ w.heap[g]? = some (.cells cur 44 (0, 0)) ∧ ys.length ≤ cap ∧ cap ≤ maxLen ∧ o + cap * 3 ≤ cur.size ∧ (cur.toList.drop o).take (ys.length * 3) = ys.flatMap layC
theorem LayAt.nil (w : World) : LayAt w (.slice none 0 0) [] := Or.inl ⟨rfl, rfl⟩
theorem LayAt.lt {w : World} {v : Value} {ys : List Lay} (h : LayAt w v ys) {k : Nat} (hk : v.ownBlock = some k) : k < w.heap.size := by
  rcases h with ⟨rfl, _⟩ | ⟨g, o, cap, cur, rfl, hg, _⟩
  · cases hk
  · have : g = k := by simpa [Value.ownBlock] using hk
    subst this
    exact (Array.getElem?_eq_some_iff.1 hg).1
theorem LayAt.form {w : World} {v : Value} {ys : List Lay} (h : LayAt w v ys) : (v = .slice none 0 0 ∧ ys = []) ∨ ∃ g o cap, v = .slice (some ⟨g, o, none⟩) ys.length cap ∧ g < w.heap.size ∧ ys.length ≤ cap ∧ cap ≤ maxLen := by
  rcases h with h | ⟨g, o, cap, cur, rfl, hg, h1, h2, _⟩
  · exact Or.inl h
  · exact Or.inr ⟨g, o, cap, rfl, (Array.getElem?_eq_some_iff.1 hg).1, h1, h2⟩
theorem LayAt.slice {w : World} {v : Value} {ys : List Lay} (h : LayAt w v ys) : ∃ ad n cap, v = .slice ad n cap := by
  rcases h with ⟨rfl, rfl⟩ | ⟨g, o, cap, cur, rfl, _⟩
  · exact ⟨none, 0, 0, rfl⟩
  · exact ⟨_, _, _, rfl⟩
theorem LayAt.kept {w w' : World} {v : Value} {ys : List Lay} (h : LayAt w v ys) (hk : ∀ k, v.ownBlock = some k → w'.heap[k]? = w.heap[k]?) : LayAt w' v ys := by
  rcases h with h | ⟨g, o, cap, cur, rfl, hg, rest⟩
  · exact Or.inl h
  · exact Or.inr ⟨g, o, cap, cur, rfl, by rw [hk g rfl]; exact hg, rest⟩
theorem LayAt.below {w w' : World} {v : Value} {ys : List Lay} (h : LayAt w v ys) (hb : Below w.heap.size w w') : LayAt w' v ys := h.kept fun k hk => hb.block k (h.lt hk)
theorem LayAt.turned {w w' : World} {v sv : Value} {pb : Nat} {ys : List Lay} (h : LayAt w v ys) (ht : Turned w w' pb sv) (h1 : v.ownBlock ≠ some pb) (h2 : v.ownBlock = none ∨ v.ownBlock ≠ sv.ownBlock) : LayAt w' v ys :=
  h.kept fun k hk => ht.block k (h.lt hk) (fun e => h1 (by rw [hk, e])) (fun e => by
    rcases h2 with h2 | h2
    · rw [h2] at hk; cases hk
    · exact h2 (by rw [hk, e]))
theorem LayAt.cell {w : World} {g o n cap : Nat} {ys : List Lay} (h : LayAt w (.slice (some ⟨g, o, none⟩) n cap) ys) (k j : Nat) (hk : k < ys.length) (hj : j < 3) :
    w.cell? ⟨g, o + k * 3 + j, none⟩ = (layC ys[k])[j]? ∧ w.frozen? ⟨g, o + k * 3 + j, none⟩ = false := by
  rw [Nat.add_assoc]
  rcases h with ⟨h, _⟩ | ⟨g', o', cap', cur, hv, hg, h1, h2, h3, h4⟩
  · cases h
  · cases hv
    refine ⟨?_, by simp [World.frozen?, hg]⟩
    have hx := flat_get layC 3 layC_len ys k j hk hj
    rw [← h4, List.getElem?_take_of_lt (by omega), List.getElem?_drop, Array.getElem?_toList] at hx
    simp only [World.cell?, hg]
    rw [show (Option.isSome (none : Option _)) = false from rfl]
    simp only [Bool.false_eq_true, if_false]
    exact hx
theorem LayAt.set {w : World} {g o n cap : Nat} {ys : List Lay} (h : LayAt w (.slice (some ⟨g, o, none⟩) n cap) ys) (k j : Nat) (hk : k < ys.length) (hj : j < 3) (u : Value) (y : Lay) (hy : layC y = (layC ys[k]).set j u) :
    LayAt (w.setCell ⟨g, o + k * 3 + j, none⟩ u) (.slice (some ⟨g, o, none⟩) n cap) (ys.set k y) := by
  rw [Nat.add_assoc]
  rcases h with ⟨h, _⟩ | ⟨g', o', cap', cur, hv, hg, h1, h2, h3, h4⟩
  · cases h
  · cases hv
    refine Or.inr ⟨g, o, cap, cur.set! (o + (k * 3 + j)) u, by rw [List.length_set], ?_, by rw [List.length_set]; exact h1, h2, by simpa using h3, ?_⟩
    · have hgl := (Array.getElem?_eq_some_iff.1 hg).1
      simp [World.setCell, Array.getElem?_modify, hg]
    · rw [List.length_set, flatMap_set layC 3 layC_len j u hj y ys k hk hy, ← h4]
      simp only [Array.set!_eq_setIfInBounds, Array.toList_setIfInBounds]
      rw [List.drop_set]
      rw [if_neg (by omega), show o + (k * 3 + j) - o = k * 3 + j by omega, List.take_set]
theorem LayAt.tail {w : World} {g o n cap : Nat} {y : Lay} {ys : List Lay} (h : LayAt w (.slice (some ⟨g, o, none⟩) n cap) (y :: ys)) :
    LayAt w (.slice (some ⟨g, if cap = 1 then o else o + 3, none⟩) ys.length (cap - 1)) ys := by
  rcases h with ⟨h, _⟩ | ⟨g', o', cap', cur, hv, hg, h1, h2, h3, h4⟩
  · cases h
  · cases hv
    simp only [List.length_cons] at h1 h4
    refine Or.inr ⟨g, _, cap - 1, cur, rfl, hg, by omega, by omega, ?_, ?_⟩
    · split <;> omega
    · by_cases hc : cap = 1
      · have : ys = [] := List.length_eq_zero_iff.1 (by omega)
        subst this
        simp
      · rw [if_neg hc]
        have e : ((cur.toList.drop o).take ((ys.length + 1) * 3)).drop 3 = ((y :: ys).flatMap layC).drop 3 := by rw [h4]
        rw [List.drop_take, List.drop_drop] at e
        rw [show (ys.length + 1) * 3 - 3 = ys.length * 3 by omega] at e
        rw [e, List.flatMap_cons, List.drop_append_of_le_length (by simp [layC])]
        simp [layC]
section
variable {P : Program} (w : World)
theorem run_append_room_at (t ty e : TypeId) (i : TypeInfo) (ht : P.underlying t = some (.slice e)) (hi : P.info? e = some i)
    (g o sLen sCap : Nat) (cur : Array Value) (hg : w.heap[g]? = some (.cells cur e (0, 0)))
    (a : Addr) (m c : Nat) (news : List Value) (hl : news.length = m * i.size) (hnews : ∀ j u, news[j]? = some u → w.cell? (a.add j) = some u) (h1 : ∀ u ∈ news, u.oneCell' = true)
    (hroom : sLen + m ≤ sCap) (hfit : o + sLen * i.size + news.length ≤ cur.size) :
    (Builtin.append_ #[t, t] ty #[.slice (some ⟨g, o, none⟩) sLen sCap, .slice (some a) m c]).run P w =
      .ok (.slice (some ⟨g, o, none⟩) (sLen + m) sCap) (w.setRow g (cur.toList.take (o + sLen * i.size) ++ news ++ cur.toList.drop (o + sLen * i.size + news.length)).toArray) := by
  have hf := run_firstCells_some (P := P) w i.size m a m c news hl hnews
  have hst := run_storeCells_at P g (o + sLen * i.size) e news 0 cur w hg (by simpa using hfit) h1
  simp only [Nat.add_zero] at hst
  simp [Builtin.append_, run_underlying ht, sizeOf, typeInfo, hi, Builtin.lenOf, hroom, hf, Addr.add_lit, hst]
theorem LayAt.holds {w : World} {g o n cap : Nat} {ys : List Lay} (h : LayAt w (.slice (some ⟨g, o, none⟩) n cap) ys) : ∀ j u, (ys.flatMap layC)[j]? = some u → w.cell? ((⟨g, o, none⟩ : Addr).add j) = some u := by
  rcases h with ⟨h, _⟩ | ⟨g', o', cap', cur, hv, hg, h1, h2, h3, h4⟩
  · cases h
  · cases hv
    intro j u hu
    have hadd : (⟨g, o, none⟩ : Addr).add j = ⟨g, o + j, none⟩ := by unfold Addr.add; split <;> simp_all
    rw [hadd]
    rw [← h4, List.getElem?_take] at hu
    split at hu
    · rw [List.getElem?_drop, Array.getElem?_toList] at hu
      simp only [World.cell?, hg]
      rw [show (Option.isSome (none : Option _)) = false from rfl]
      simp only [Bool.false_eq_true, if_false]
      exact hu
    · cases hu
theorem lay_grown (t : TypeId) (ht : t = 44) (w' : World) (xs : List Lay) (g : Nat) (zs : Array Value) (cap : Nat) (hg : w'.heap[g]? = some (.cells ((xs.flatMap layC).toArray ++ zs) t)) (h1 : xs.length ≤ cap) (h2 : cap ≤ maxLen) (h3 : zs.size = (cap - xs.length) * 3) : LayAt w' (.slice (some ⟨g, 0, none⟩) xs.length cap) xs := by
  subst ht
  have hl := flat_len layC 3 layC_len xs
  refine Or.inr ⟨g, 0, cap, _, rfl, hg, h1, h2, ?_, ?_⟩
  · simp only [Array.size_append, List.size_toArray, hl, h3]; omega
  · rw [List.drop_zero, ← hl]
    simp only [Array.toList_append]
    exact List.take_left
/-- append of one layer. -/
theorem wpList_append_lay {ops : Array Oper} {rest : List Oper} {op : Oper} {a : Act} {Q : Exit → Act → World → Prop} (hgd : op.guard = none) (s x : Operand) (t : TypeId)
    (ho : op.op = .call { callee := .builtin .append, args := #[s, x], argTypes := #[t, t] })
    (i : TypeInfo) (z : Value) (ht : P.underlying t = some (.slice 44)) (hi : P.info? 44 = some i) (hz : i.zero = some z)
    (hsize : i.size = 3) (hby : i.bytes = 24) (hzs : z.cells.size = 3)
    (v : Value) (ys : List Lay) (hs : a.eval s = v) (h : LayAt w v ys) (hlen : ys.length ≤ 1000000)
    (ad : Addr) (c : Nat) (y : Lay) (hx : a.eval x = .slice (some ad) 1 c) (hnews : ∀ j u, (layC y)[j]? = some u → w.cell? (ad.add j) = some u)
    (hK : ∀ v' w', LayAt w' v' (ys ++ [y]) → w.grownBy w' v.ownBlock → Fresh w v v' → wpList P ops Q rest (a.put op.dst v') w') : wpList P ops Q (op :: rest) a w := by
  have key : ∃ v' w', (Builtin.append_ #[t, t] op.type #[v, .slice (some ad) 1 c]).run P w = .ok v' w' ∧ LayAt w' v' (ys ++ [y]) ∧ w.grownBy w' v.ownBlock ∧ Fresh w v v' := by
    have hm : (1000001 : Nat) ≤ maxLen := by simp [maxLen]
    have hl : (layC y).length = 1 * i.size := by rw [hsize]; rfl
    have hgn : ∀ (old : Nat), old < ys.length + 1 → ∀ row : Option Nat, LayAt (w.drew.alloc (.cells ((ys.flatMap layC).toArray ++ (layC y).toArray ++ Builtin.zeroCells z.cells (grownCap w (ys.length + 1) old 44 - (ys.length + 1))) 44)) (.slice (some ⟨w.heap.size, 0, none⟩) (ys.length + 1) (grownCap w (ys.length + 1) old 44)) (ys ++ [y])
        ∧ w.grownBy (w.drew.alloc (.cells ((ys.flatMap layC).toArray ++ (layC y).toArray ++ Builtin.zeroCells z.cells (grownCap w (ys.length + 1) old 44 - (ys.length + 1))) 44)) row := fun old ho row => by
      have hge := grownCap_ge w (ys.length + 1) old 44
      have hcm := grownCap_le_maxLen w (ys.length + 1) old 44 (by omega)
      refine ⟨?_, ⟨rfl, rfl, rfl, by simp, fun k hk _ => heap_alloc_old w.drew _ hk⟩⟩
      have := lay_grown 44 rfl (w.drew.alloc (.cells ((ys.flatMap layC).toArray ++ (layC y).toArray ++ Builtin.zeroCells z.cells (grownCap w (ys.length + 1) old 44 - (ys.length + 1))) 44)) (ys ++ [y]) w.heap.size (Builtin.zeroCells z.cells (grownCap w (ys.length + 1) old 44 - (ys.length + 1))) (grownCap w (ys.length + 1) old 44)
        (by rw [List.flatMap_append]; simpa using heap_alloc_new w.drew _) (by simpa using hge) hcm (by rw [size_zeroCells, hzs]; simp)
      simpa using this
    rcases h with ⟨rfl, rfl⟩ | ⟨g, o, cap, cur, rfl, hg, h1, h2, h3, h4⟩
    · have hr := run_append_nil (P := P) w t op.type 44 i z ht hi hz ad 1 c (layC y) hl hnews (by omega) (by omega) (by omega)
      have hgr := hgn 0 (by simp) (Value.ownBlock (.slice none 0 0))
      simp only [List.length_nil, Nat.zero_add, List.flatMap_nil, List.nil_append, Array.empty_append] at hgr ⊢
      exact ⟨_, _, hr, hgr.1, hgr.2, fun k hk => by simp [Value.ownBlock] at hk; exact Or.inr (by omega)⟩
    · by_cases hroom : ys.length + 1 ≤ cap
      · have hr := run_append_room_at (P := P) w t op.type 44 i ht hi g o ys.length cap cur hg ad 1 c (layC y) hl hnews (layC_one y) hroom (by rw [hsize]; simp only [layC_len]; omega)
        refine ⟨_, _, hr, Or.inr ⟨g, o, cap, _, by simp, setRow_heap w g cur _ _ _ hg, by simpa using hroom, h2, ?_, ?_⟩, ⟨rfl, rfl, rfl, by simp, fun k _ hk => setRow_other w g k _ (fun e => hk (by simp [Value.ownBlock, e]))⟩, fun k hk => Or.inl (by simpa [Value.ownBlock] using hk)⟩
        · rw [hsize]
          simp only [List.size_toArray, List.length_append, List.length_take, List.length_drop, Array.length_toList, layC_len]
          omega
        · rw [hsize]
          have hfl := flat_len layC 3 layC_len ys
          simp only [List.length_append, List.length_cons, List.length_nil, Nat.zero_add, List.flatMap_append, List.flatMap_cons, List.flatMap_nil, List.append_nil]
          rw [← h4, List.append_assoc, List.drop_append_of_le_length (by simp only [List.length_take, Array.length_toList]; omega)]
          have e1 : (List.take (o + ys.length * 3) cur.toList).drop o = (cur.toList.drop o).take (ys.length * 3) := by
            rw [List.drop_take, Nat.add_sub_cancel_left]
          rw [e1, ← List.append_assoc]
          rw [show (ys.length + 1) * 3 = ((cur.toList.drop o).take (ys.length * 3) ++ layC y).length by rw [List.length_append, h4, hfl, layC_len]; omega]
          exact List.take_left
      · have hr := run_append_grow (P := P) w t op.type 44 i z ht hi hz ⟨g, o, none⟩ ys.length cap (ys.flatMap layC) (by rw [flat_len layC 3 layC_len, hsize]) (LayAt.holds (w := w) (n := ys.length) (cap := cap) (Or.inr ⟨g, o, cap, cur, rfl, hg, h1, h2, h3, h4⟩)) ad 1 c (layC y) hl hnews (by omega) (by omega) (growslice_fits (by omega) (by rw [hby]; omega))
        have hgr := hgn cap (by omega) (Value.ownBlock (.slice (some ⟨g, o, none⟩) ys.length cap))
        exact ⟨_, _, hr, hgr.1, hgr.2, fun k hk => by simp [Value.ownBlock] at hk; exact Or.inr (by omega)⟩
  exact wpList_plain hgd fun _ hKK => by
    obtain ⟨v', w', hr, h2, h3, h4⟩ := key
    unfold Oper.wp execOp
    simp only [ho, resolve, invoke, builtin, Sem.run_bind, Sem.run_pure, Result.andThen_ok, List.map_toArray, List.map_cons, List.map_nil, hs, hx, hr]
    exact hKK _ _ (hK v' w' h2 h3 h4)
end
end Go.Proofs.Ytmldaiofghpfdaa
