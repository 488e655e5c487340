/- Layers in memory: a slice that may begin in the midst of its row; a stock. The plain mathematics of package money's shares: no word of the program. The walks of money.share and money.Part: each returns what the plain mathematics says. The walks of cost.worth and cost.sum. A stock in memory; the walks of put, take, charge, count, do at it. The walk of (*cost.stock).take. -/
import Derived.Test.YtcfgacdcgljbaaaGreatDoorBnL
import Derived.Test.YtcfgacdcgljbaaaGreatDoorBnC
import Derived.Test.YtcfgacdcgljbaaaGreatDoorBnA
namespace Go.Proofs.YtcfgacdcgljbaaaGreatDoor
open Go.RowKit
def layC (y : Lay) : List Value := [.int .i64 y.id, .int .i64 y.qty, .int .i64 y.val]
def linC (y : Lin) : List Value := [.int .i64 y.id, .int .i64 y.val, .int .i64 y.short, .int .i64 y.late, .bool y.gain]
theorem layC_len (y : Lay) : (layC y).length = 3 := rfl
theorem linC_len (y : Lin) : (linC y).length = 5 := rfl
theorem layC_one (y : Lay) : ∀ u ∈ layC y, u.oneCell' = true := by
  intro u hu
  simp only [layC, List.mem_cons, List.not_mem_nil, or_false] at hu
  rcases hu with rfl | rfl | rfl <;> rfl
theorem linC_one (y : Lin) : ∀ u ∈ linC y, u.oneCell' = true := by
  intro u hu
  simp only [linC, List.mem_cons, List.not_mem_nil, or_false] at hu
  rcases hu with rfl | rfl | rfl | rfl | rfl <;> rfl
/-- The slice v holds these layers, in a row of its own, from some place on. -/
def LayAt (w : World) (v : Value) (ys : List Lay) : Prop :=
  (v = .slice none 0 0 ∧ ys = []) ∨ ∃ g o cap cur, v = .slice (some ⟨g, o, none⟩) ys.length cap ∧ w.heap[g]? = some (.cells cur 204 (0, 0)) ∧ ys.length ≤ cap ∧ cap ≤ maxLen ∧ o + cap * 3 ≤ cur.size ∧ (cur.toList.drop o).take (ys.length * 3) = ys.flatMap layC
theorem LayAt.nil (w : World) : LayAt w (.slice none 0 0) [] := Or.inl ⟨rfl, rfl⟩
theorem LayAt.lt {w : World} {v : Value} {ys : List Lay} (h : LayAt w v ys) {k : Nat} (hk : v.ownBlock = some k) : k < w.heap.size := by
  rcases h with ⟨rfl, _⟩ | ⟨g, o, cap, cur, rfl, hg, _⟩
  · cases hk
  · have : g = k := by simpa [Value.ownBlock] using hk
    subst this
    exact (Array.getElem?_eq_some_iff.1 hg).1
theorem LayAt.form {w : World} {v : Value} {ys : List Lay} (h : LayAt w v ys) : (v = .slice none 0 0 ∧ ys = []) ∨ ∃ g o cap, v = .slice (some ⟨g, o, none⟩) ys.length cap ∧ g < w.heap.size ∧ ys.length ≤ cap ∧ cap ≤ maxLen := by
  rcases h with h | ⟨g, o, cap, cur, rfl, hg, h1, h2, _⟩
  · exact Or.inl h
  · exact Or.inr ⟨g, o, cap, rfl, (Array.getElem?_eq_some_iff.1 hg).1, h1, h2⟩
theorem LayAt.slice {w : World} {v : Value} {ys : List Lay} (h : LayAt w v ys) : ∃ ad n cap, v = .slice ad n cap := by
  rcases h with ⟨rfl, rfl⟩ | ⟨g, o, cap, cur, rfl, _⟩
  · exact ⟨none, 0, 0, rfl⟩
  · exact ⟨_, _, _, rfl⟩
theorem LayAt.kept {w w' : World} {v : Value} {ys : List Lay} (h : LayAt w v ys) (hk : ∀ k, v.ownBlock = some k → w'.heap[k]? = w.heap[k]?) : LayAt w' v ys := by
  rcases h with h | ⟨g, o, cap, cur, rfl, hg, rest⟩
  · exact Or.inl h
  · exact Or.inr ⟨g, o, cap, cur, rfl, by rw [hk g rfl]; exact hg, rest⟩
theorem LayAt.below {w w' : World} {v : Value} {ys : List Lay} (h : LayAt w v ys) (hb : Below w.heap.size w w') : LayAt w' v ys := h.kept fun k hk => hb.block k (h.lt hk)
theorem LayAt.turned {w w' : World} {v sv : Value} {pb : Nat} {ys : List Lay} (h : LayAt w v ys) (ht : Turned w w' pb sv) (h1 : v.ownBlock ≠ some pb) (h2 : v.ownBlock = none ∨ v.ownBlock ≠ sv.ownBlock) : LayAt w' v ys :=
  h.kept fun k hk => ht.block k (h.lt hk) (fun e => h1 (by rw [hk, e])) (fun e => by
    rcases h2 with h2 | h2
    · rw [h2] at hk; cases hk
    · exact h2 (by rw [hk, e]))
theorem LayAt.cell {w : World} {g o n cap : Nat} {ys : List Lay} (h : LayAt w (.slice (some ⟨g, o, none⟩) n cap) ys) (k j : Nat) (hk : k < ys.length) (hj : j < 3) :
    w.cell? ⟨g, o + k * 3 + j, none⟩ = (layC ys[k])[j]? ∧ w.frozen? ⟨g, o + k * 3 + j, none⟩ = false := by
  rw [Nat.add_assoc]
  rcases h with ⟨h, _⟩ | ⟨g', o', cap', cur, hv, hg, h1, h2, h3, h4⟩
  · cases h
  · cases hv
    refine ⟨?_, by simp [World.frozen?, hg]⟩
    have hx := flat_get layC 3 layC_len ys k j hk hj
    rw [← h4, List.getElem?_take_of_lt (by omega), List.getElem?_drop, Array.getElem?_toList] at hx
    simp only [World.cell?, hg]
    rw [show (Option.isSome (none : Option _)) = false from rfl]
    simp only [Bool.false_eq_true, if_false]
    exact hx
theorem LayAt.set {w : World} {g o n cap : Nat} {ys : List Lay} (h : LayAt w (.slice (some ⟨g, o, none⟩) n cap) ys) (k j : Nat) (hk : k < ys.length) (hj : j < 3) (u : Value) (y : Lay) (hy : layC y = (layC ys[k]).set j u) :
    LayAt (w.setCell ⟨g, o + k * 3 + j, none⟩ u) (.slice (some ⟨g, o, none⟩) n cap) (ys.set k y) := by
  rw [Nat.add_assoc]
  rcases h with ⟨h, _⟩ | ⟨g', o', cap', cur, hv, hg, h1, h2, h3, h4⟩
  · cases h
  · cases hv
    refine Or.inr ⟨g, o, cap, cur.set! (o + (k * 3 + j)) u, by rw [List.length_set], ?_, by rw [List.length_set]; exact h1, h2, by simpa using h3, ?_⟩
    · have hgl := (Array.getElem?_eq_some_iff.1 hg).1
      simp [World.setCell, Array.getElem?_modify, hg]
    · rw [List.length_set, flatMap_set layC 3 layC_len j u hj y ys k hk hy, ← h4]
      simp only [Array.set!_eq_setIfInBounds, Array.toList_setIfInBounds]
      rw [List.drop_set]
      rw [if_neg (by omega), show o + (k * 3 + j) - o = k * 3 + j by omega, List.take_set]
theorem LayAt.tail {w : World} {g o n cap : Nat} {y : Lay} {ys : List Lay} (h : LayAt w (.slice (some ⟨g, o, none⟩) n cap) (y :: ys)) :
    LayAt w (.slice (some ⟨g, if cap = 1 then o else o + 3, none⟩) ys.length (cap - 1)) ys := by
  rcases h with ⟨h, _⟩ | ⟨g', o', cap', cur, hv, hg, h1, h2, h3, h4⟩
  · cases h
  · cases hv
    simp only [List.length_cons] at h1 h4
    refine Or.inr ⟨g, _, cap - 1, cur, rfl, hg, by omega, by omega, ?_, ?_⟩
    · split <;> omega
    · by_cases hc : cap = 1
      · have : ys = [] := List.length_eq_zero_iff.1 (by omega)
        subst this
        simp
      · rw [if_neg hc]
        have e : ((cur.toList.drop o).take ((ys.length + 1) * 3)).drop 3 = ((y :: ys).flatMap layC).drop 3 := by rw [h4]
        rw [List.drop_take, List.drop_drop] at e
        rw [show (ys.length + 1) * 3 - 3 = ys.length * 3 by omega] at e
        rw [e, List.flatMap_cons, List.drop_append_of_le_length (by simp [layC])]
        simp [layC]
section
variable {P : Program} (w : World)
theorem run_append_room_at (t ty e : TypeId) (i : TypeInfo) (ht : P.underlying t = some (.slice e)) (hi : P.info? e = some i)
    (g o sLen sCap : Nat) (cur : Array Value) (hg : w.heap[g]? = some (.cells cur e (0, 0)))
    (a : Addr) (m c : Nat) (news : List Value) (hl : news.length = m * i.size) (hnews : ∀ j u, news[j]? = some u → w.cell? (a.add j) = some u) (h1 : ∀ u ∈ news, u.oneCell' = true)
    (hroom : sLen + m ≤ sCap) (hfit : o + sLen * i.size + news.length ≤ cur.size) :
    (Builtin.append_ #[t, t] ty #[.slice (some ⟨g, o, none⟩) sLen sCap, .slice (some a) m c]).run P w =
      .ok (.slice (some ⟨g, o, none⟩) (sLen + m) sCap) (w.setRow g (cur.toList.take (o + sLen * i.size) ++ news ++ cur.toList.drop (o + sLen * i.size + news.length)).toArray) := by
  have hf := run_firstCells_some (P := P) w i.size m a m c news hl hnews
  have hst := run_storeCells_at P g (o + sLen * i.size) e news 0 cur w hg (by simpa using hfit) h1
  simp only [Nat.add_zero] at hst
  simp [Builtin.append_, run_underlying ht, sizeOf, typeInfo, hi, Builtin.lenOf, hroom, hf, Addr.add_lit, hst]
theorem LayAt.holds {w : World} {g o n cap : Nat} {ys : List Lay} (h : LayAt w (.slice (some ⟨g, o, none⟩) n cap) ys) : ∀ j u, (ys.flatMap layC)[j]? = some u → w.cell? ((⟨g, o, none⟩ : Addr).add j) = some u := by
  rcases h with ⟨h, _⟩ | ⟨g', o', cap', cur, hv, hg, h1, h2, h3, h4⟩
  · cases h
  · cases hv
    intro j u hu
    have hadd : (⟨g, o, none⟩ : Addr).add j = ⟨g, o + j, none⟩ := by unfold Addr.add; split <;> simp_all
    rw [hadd]
    rw [← h4, List.getElem?_take] at hu
    split at hu
    · rw [List.getElem?_drop, Array.getElem?_toList] at hu
      simp only [World.cell?, hg]
      rw [show (Option.isSome (none : Option _)) = false from rfl]
      simp only [Bool.false_eq_true, if_false]
      exact hu
    · cases hu
theorem lay_grown (t : TypeId) (ht : t = 204) (w' : World) (xs : List Lay) (g : Nat) (zs : Array Value) (cap : Nat) (hg : w'.heap[g]? = some (.cells ((xs.flatMap layC).toArray ++ zs) t)) (h1 : xs.length ≤ cap) (h2 : cap ≤ maxLen) (h3 : zs.size = (cap - xs.length) * 3) : LayAt w' (.slice (some ⟨g, 0, none⟩) xs.length cap) xs := by
  subst ht
  have hl := flat_len layC 3 layC_len xs
  refine Or.inr ⟨g, 0, cap, _, rfl, hg, h1, h2, ?_, ?_⟩
  · simp only [Array.size_append, List.size_toArray, hl, h3]; omega
  · rw [List.drop_zero, ← hl]
    simp only [Array.toList_append]
    exact List.take_left
/-- append of one layer. -/
theorem wpList_append_lay {ops : Array Oper} {rest : List Oper} {op : Oper} {a : Act} {Q : Exit → Act → World → Prop} (hgd : op.guard = none) (s x : Operand) (t : TypeId)
    (ho : op.op = .call { callee := .builtin .append, args := #[s, x], argTypes := #[t, t] })
    (i : TypeInfo) (z : Value) (ht : P.underlying t = some (.slice 204)) (hi : P.info? 204 = some i) (hz : i.zero = some z)
    (hsize : i.size = 3) (hby : i.bytes = 24) (hzs : z.cells.size = 3)
    (v : Value) (ys : List Lay) (hs : a.eval s = v) (h : LayAt w v ys) (hlen : ys.length ≤ 1000000)
    (ad : Addr) (c : Nat) (y : Lay) (hx : a.eval x = .slice (some ad) 1 c) (hnews : ∀ j u, (layC y)[j]? = some u → w.cell? (ad.add j) = some u)
    (hK : ∀ v' w', LayAt w' v' (ys ++ [y]) → w.grownBy w' v.ownBlock → Fresh w v v' → wpList P ops Q rest (a.put op.dst v') w') : wpList P ops Q (op :: rest) a w := by
  have key : ∃ v' w', (Builtin.append_ #[t, t] op.type #[v, .slice (some ad) 1 c]).run P w = .ok v' w' ∧ LayAt w' v' (ys ++ [y]) ∧ w.grownBy w' v.ownBlock ∧ Fresh w v v' := by
    have hm : (1000001 : Nat) ≤ maxLen := by simp [maxLen]
    have hl : (layC y).length = 1 * i.size := by rw [hsize]; rfl
    have hgn : ∀ (old : Nat), old < ys.length + 1 → ∀ row : Option Nat, LayAt (w.drew.alloc (.cells ((ys.flatMap layC).toArray ++ (layC y).toArray ++ Builtin.zeroCells z.cells (grownCap w (ys.length + 1) old 204 - (ys.length + 1))) 204)) (.slice (some ⟨w.heap.size, 0, none⟩) (ys.length + 1) (grownCap w (ys.length + 1) old 204)) (ys ++ [y])
        ∧ w.grownBy (w.drew.alloc (.cells ((ys.flatMap layC).toArray ++ (layC y).toArray ++ Builtin.zeroCells z.cells (grownCap w (ys.length + 1) old 204 - (ys.length + 1))) 204)) row := fun old ho row => by
      have hge := grownCap_ge w (ys.length + 1) old 204
      have hcm := grownCap_le_maxLen w (ys.length + 1) old 204 (by omega)
      refine ⟨?_, ⟨rfl, rfl, rfl, by simp, fun k hk _ => heap_alloc_old w.drew _ hk⟩⟩
      have := lay_grown 204 rfl (w.drew.alloc (.cells ((ys.flatMap layC).toArray ++ (layC y).toArray ++ Builtin.zeroCells z.cells (grownCap w (ys.length + 1) old 204 - (ys.length + 1))) 204)) (ys ++ [y]) w.heap.size (Builtin.zeroCells z.cells (grownCap w (ys.length + 1) old 204 - (ys.length + 1))) (grownCap w (ys.length + 1) old 204)
        (by rw [List.flatMap_append]; simpa using heap_alloc_new w.drew _) (by simpa using hge) hcm (by rw [size_zeroCells, hzs]; simp)
      simpa using this
    rcases h with ⟨rfl, rfl⟩ | ⟨g, o, cap, cur, rfl, hg, h1, h2, h3, h4⟩
    · have hr := run_append_nil (P := P) w t op.type 204 i z ht hi hz ad 1 c (layC y) hl hnews (by omega) (by omega) (by omega)
      have hgr := hgn 0 (by simp) (Value.ownBlock (.slice none 0 0))
      simp only [List.length_nil, Nat.zero_add, List.flatMap_nil, List.nil_append, Array.empty_append] at hgr ⊢
      exact ⟨_, _, hr, hgr.1, hgr.2, fun k hk => by simp [Value.ownBlock] at hk; exact Or.inr (by omega)⟩
    · by_cases hroom : ys.length + 1 ≤ cap
      · have hr := run_append_room_at (P := P) w t op.type 204 i ht hi g o ys.length cap cur hg ad 1 c (layC y) hl hnews (layC_one y) hroom (by rw [hsize]; simp only [layC_len]; omega)
        refine ⟨_, _, hr, Or.inr ⟨g, o, cap, _, by simp, setRow_heap w g cur _ _ _ hg, by simpa using hroom, h2, ?_, ?_⟩, ⟨rfl, rfl, rfl, by simp, fun k _ hk => setRow_other w g k _ (fun e => hk (by simp [Value.ownBlock, e]))⟩, fun k hk => Or.inl (by simpa [Value.ownBlock] using hk)⟩
        · rw [hsize]
          simp only [List.size_toArray, List.length_append, List.length_take, List.length_drop, Array.length_toList, layC_len]
          omega
        · rw [hsize]
          have hfl := flat_len layC 3 layC_len ys
          simp only [List.length_append, List.length_cons, List.length_nil, Nat.zero_add, List.flatMap_append, List.flatMap_cons, List.flatMap_nil, List.append_nil]
          rw [← h4, List.append_assoc, List.drop_append_of_le_length (by simp only [List.length_take, Array.length_toList]; omega)]
          have e1 : (List.take (o + ys.length * 3) cur.toList).drop o = (cur.toList.drop o).take (ys.length * 3) := by
            rw [List.drop_take, Nat.add_sub_cancel_left]
          rw [e1, ← List.append_assoc]
          rw [show (ys.length + 1) * 3 = ((cur.toList.drop o).take (ys.length * 3) ++ layC y).length by rw [List.length_append, h4, hfl, layC_len]; omega]
          exact List.take_left
      · have hr := run_append_grow (P := P) w t op.type 204 i z ht hi hz ⟨g, o, none⟩ ys.length cap (ys.flatMap layC) (by rw [flat_len layC 3 layC_len, hsize]) (LayAt.holds (w := w) (n := ys.length) (cap := cap) (Or.inr ⟨g, o, cap, cur, rfl, hg, h1, h2, h3, h4⟩)) ad 1 c (layC y) hl hnews (by omega) (by omega) (growslice_fits (by omega) (by rw [hby]; omega))
        have hgr := hgn cap (by omega) (Value.ownBlock (.slice (some ⟨g, o, none⟩) ys.length cap))
        exact ⟨_, _, hr, hgr.1, hgr.2, fun k hk => by simp [Value.ownBlock] at hk; exact Or.inr (by omega)⟩
  exact wpList_plain hgd fun _ hKK => by
    obtain ⟨v', w', hr, h2, h3, h4⟩ := key
    unfold Oper.wp execOp
    simp only [ho, resolve, invoke, builtin, Sem.run_bind, Sem.run_pure, Result.andThen_ok, List.map_toArray, List.map_cons, List.map_nil, hs, hx, hr]
    exact hKK _ _ (hK v' w' h2 h3 h4)
end
end Go.Proofs.YtcfgacdcgljbaaaGreatDoor
namespace Go.Proofs.YtcfgacdcgljbaaaGreatDoor
/-- What part of a total goes with some of a whole. -/
def shr (t s w : Int) : Int := t * s / w
theorem shr_split (t s w : Int) (hw : 0 < w) : t / w * s + t % w * s / w = shr t s w := by
  unfold shr
  have e : t * s = t % w * s + w * (t / w * s) := by
    have h := Int.mul_ediv_add_emod t w
    calc t * s = (w * (t / w) + t % w) * s := by rw [h]
      _ = t % w * s + w * (t / w * s) := by rw [Int.add_mul, Int.mul_assoc, Int.add_comm]
  rw [e, Int.add_mul_ediv_left _ _ (by omega), Int.add_comm]
theorem shr_nonneg (t s w : Int) (ht : 0 ≤ t) (hs : 0 ≤ s) (hw : 0 < w) : 0 ≤ shr t s w :=
  Int.ediv_nonneg (Int.mul_nonneg ht hs) (Int.le_of_lt hw)
theorem shr_mono (t a b w : Int) (ht : 0 ≤ t) (hab : a ≤ b) (hw : 0 < w) : shr t a w ≤ shr t b w :=
  Int.ediv_le_ediv hw (Int.mul_le_mul_of_nonneg_left hab ht)
theorem shr_all (t w : Int) (hw : 0 < w) : shr t w w = t := Int.mul_ediv_cancel _ (by omega)
theorem shr_none (t w : Int) : shr t 0 w = 0 := by simp [shr]
theorem shr_le (t s w : Int) (ht : 0 ≤ t) (hs : s ≤ w) (hw : 0 < w) : shr t s w ≤ t := by
  have := shr_mono t s w w ht hs hw; rwa [shr_all t w hw] at this
/-- Bounds on the two products of the code. -/
theorem quo_bd (t s w : Int) (ht : 0 ≤ t) (hs : 0 ≤ s) (hsw : s ≤ w) (hw : 0 < w) : 0 ≤ t / w * s ∧ t / w * s ≤ t := by
  have h0 : 0 ≤ t / w := Int.ediv_nonneg ht (by omega)
  refine ⟨Int.mul_nonneg h0 hs, Int.le_trans (Int.mul_le_mul_of_nonneg_left hsw h0) ?_⟩
  exact Int.ediv_mul_le t (by omega)
theorem rem_bd (t s w B : Int) (hs : 0 ≤ s) (hsw : s ≤ w) (hw : 0 < w) (hB : w ≤ B) : 0 ≤ t % w * s ∧ t % w * s ≤ B * B ∧ 0 ≤ t % w * s / w ∧ t % w * s / w ≤ B := by
  have h0 : 0 ≤ t % w := Int.emod_nonneg t (by omega)
  have h1 : t % w < w := Int.emod_lt_of_pos t hw
  have a0 : 0 ≤ t % w * s := Int.mul_nonneg h0 hs
  have a1 : t % w * s ≤ w * w := Int.mul_le_mul (by omega) hsw hs (by omega)
  have a2 : w * w ≤ B * B := Int.mul_le_mul hB hB (by omega) (by omega)
  refine ⟨a0, by omega, Int.ediv_nonneg a0 (by omega), ?_⟩
  have : t % w * s / w ≤ w * w / w := Int.ediv_le_ediv hw a1
  rw [Int.mul_ediv_cancel _ (by omega)] at this
  omega
end Go.Proofs.YtcfgacdcgljbaaaGreatDoor
namespace Go.Proofs.YtcfgacdcgljbaaaGreatDoor
open Go.RowKit
set_option maxHeartbeats 1000000 in
theorem share_any (t s v : Int) (w : World) (ht : 0 ≤ t) (ht' : t ≤ 20000000000000) (hs : 0 ≤ s) (hsv : s ≤ v) (hv : 1 ≤ v) (hv' : v ≤ 100000000) :
    Calls Tryz.prog 269 #[.int .i64 t, .int .i64 s, .int .i64 v] w fun e w' => e = .returned (.int .i64 (shr t s v)) ∧ ∃ n, w' = w.drewN n := by
  have hq := quo_bd t s v ht hs hsv (by omega)
  have hr := rem_bd t s v 100000000 hs hsv (by omega) hv'
  have hm0 : 0 ≤ t % v := Int.emod_nonneg t (by omega)
  have hm1 : t % v < v := Int.emod_lt_of_pos t (by omega)
  have HS : Hid (t / v * s + t % v * s / v = shr t s v) := shr_split t s v (by omega)
  go_enter Tryz.func269, Tryz.ntmps269
  go_wp2
  go_quiet (fail)
  go_wp2
  go_ret
  exact ⟨ret_int HS.out, _, rfl⟩
set_option maxHeartbeats 1000000 in
theorem part_ok (t s v : Int) (w : World) (ht : 0 ≤ t) (ht' : t ≤ 20000000000000) (hs : 0 ≤ s) (hsv : s ≤ v) (hv : 1 ≤ v) (hv' : v ≤ 100000) :
    Calls Tryz.prog 248 #[.int .i64 t, .int .i64 s, .int .i64 v] w fun e w' => e = .returned (.tuple #[.int .i64 (shr t s v), .nilIface]) ∧ ∃ n, w' = w.drewN n := by
  go_enter Tryz.func248, Tryz.ntmps248
  go_wp2_with (go_at_call 269; refine (share_any _ _ _ _ ht ht' hs hsv hv (by omega)).mono ?_; rintro e w' ⟨rfl, n, rfl⟩)
  go_ret2
  exact ⟨rfl, _, rfl⟩
end Go.Proofs.YtcfgacdcgljbaaaGreatDoor
namespace Go.Proofs.YtcfgacdcgljbaaaGreatDoor
open Go.RowKit
set_option maxHeartbeats 1000000 in
theorem worth_any (y : Lay) (n : Int) (w : World) (h : LayOK y) (hv : y.val ≤ 4000000000000000000) (h0 : 0 ≤ n) (h1 : n ≤ y.qty) :
    Calls Tryz.prog 207 #[.agg #[.int .i64 y.id, .int .i64 y.qty, .int .i64 y.val], .int .i64 n] w fun e w' => e = .returned (.int .i64 (y.val * n / y.qty)) ∧ Below w.heap.size w w' := by
  obtain ⟨id, qty, val⟩ := y
  obtain ⟨q1, q2, v0⟩ := h
  simp only at hv h1 q1 q2 v0 ⊢
  have hm0 : 0 ≤ val % qty := Int.emod_nonneg val (by omega)
  have hm1 : val % qty < qty := Int.emod_lt_of_pos val (by omega)
  have HS : Hid (val / qty * n + val % qty * n / qty = val * n / qty) := part_split (by omega)
  have hp := part_le v0 h0 (by omega : 0 < qty) h1
  have hr := part_le hm0 h0 (by omega : 0 < qty) h1
  have hq0 : 0 ≤ val / qty := Int.ediv_nonneg v0 (by omega)
  have hqn : 0 ≤ val / qty * n := Int.mul_nonneg hq0 h0
  have hqs : val / qty * n ≤ 4000000000000000000 := by have := HS.out; omega
  have hall : val / qty * n + val % qty * n / qty ≤ 4000000000000000000 := by rw [HS.out]; omega
  have hc := fun W => part_ok (val % qty) n qty W hm0 (by omega) h0 h1 q1 q2
  unfold shr at hc
  generalize hR : val % qty * n / qty = R at hc hr HS hall
  clear hR
  generalize hM : val % qty = M at hc hm0 hm1
  have HM : Hid (val % qty = M) := hM
  obtain ⟨W0, hW0⟩ : ∃ W, W = w.alloc (.cells #[.int .i64 id, .int .i64 qty, .int .i64 val] 204) := ⟨_, rfl⟩
  have hB0 : Below w.heap.size w W0 := by rw [hW0]; exact (Below.refl _ _).alloc (Nat.le_refl _) _
  have c1 : ∀ k, (W0.drewN k).cell? ⟨w.heap.size, 1, none⟩ = some (.int .i64 qty) := fun k => by rw [hW0]; simp
  have c2 : ∀ k, (W0.drewN k).cell? ⟨w.heap.size, 2, none⟩ = some (.int .i64 val) := fun k => by rw [hW0]; simp
  have qne : ¬ qty = 0 := by omega
  go_enter Tryz.func207, Tryz.ntmps207
  go_wp2_with fail
  rw [← hW0]
  clear hW0
  go_quiet (first | (go_at_call 248; refine Calls.quiet_of (hc _)))
  go_wp2
  go_ret
  exact ⟨ret_int HS.out, hB0.trans ⟨rfl, rfl, rfl, Nat.le_refl _, fun _ _ => rfl⟩⟩
theorem sum_take {ys : List Lay} (h : ∀ y ∈ ys, LayOK y) (k : Nat) : 0 ≤ sumQ (ys.take k) ∧ sumQ (ys.take k) ≤ sumQ ys ∧ 0 ≤ sumV (ys.take k) ∧ sumV (ys.take k) ≤ sumV ys := by
  have h1 := sum_nonneg (ys := ys.take k) fun y hy => h y (List.mem_of_mem_take hy)
  have h2 := sum_nonneg (ys := ys.drop k) fun y hy => h y (List.mem_of_mem_drop hy)
  have h3 := sumQ_append (ys.take k) (ys.drop k)
  have h4 := sumV_append (ys.take k) (ys.drop k)
  rw [List.take_append_drop] at h3 h4
  omega
theorem sum_snoc (ys : List Lay) (k : Nat) (hk : k < ys.length) : sumQ (ys.take (k + 1)) = sumQ (ys.take k) + ys[k].qty ∧ sumV (ys.take (k + 1)) = sumV (ys.take k) + ys[k].val := by
  rw [List.take_succ_eq_append_getElem hk, sumQ_append, sumV_append]
  simp only [sumQ, sumV]
  omega
set_option maxHeartbeats 1000000 in
theorem sum_any (ys : List Lay) (v : Value) (w : World) (h : LayAt w v ys) (hok : ∀ y ∈ ys, LayOK y) (hq : sumQ ys ≤ 1000000000) (hv : sumV ys ≤ 4000000000000000000) (hl : ys.length ≤ 1000000) :
    Calls Tryz.prog 137 #[v] w fun e w' => e = .returned (.tuple #[.int .i64 (sumQ ys), .int .i64 (sumV ys)]) ∧ Below w.heap.size w w' := by
  rcases h.form with ⟨rfl, rfl⟩ | ⟨g, o, cap, rfl, hg, hc1, hc2⟩
  · go_enter Tryz.func137, Tryz.ntmps137
    go_wp2
    refine wp_loop_rounds 1 ?_
    rw [rounds_succ]
    go_wp2
    go_ret2
    exact ⟨rfl, Below.refl _ _⟩
  · go_enter Tryz.func137, Tryz.ntmps137
    go_wp2
    go_loopw [2, 3, 8] (fun q s i wr => ∃ k : Nat, k ≤ ys.length ∧ i = .int .i64 k ∧ q = .int .i64 (sumQ (ys.take k)) ∧ s = .int .i64 (sumV (ys.take k)) ∧ Below w.heap.size w wr) (fun _ _ i _ => ys.length - (intOf i).toNat)
    case atStart => exact ⟨0, Nat.zero_le _, rfl, rfl, rfl, Below.refl _ _⟩
    case round =>
      obtain ⟨k, hk, rfl, rfl, rfl, hb⟩ := hrel
      by_cases hlt : k < ys.length
      · have hc := fun j hj => ((h.below hb).cell k j hlt hj).1
        have c0 := hc 0 (by omega)
        have c1 := hc 1 (by omega)
        have c2 := hc 2 (by omega)
        have st := sum_take hok k
        have st1 := sum_take hok (k + 1)
        have sn := sum_snoc ys k hlt
        have SN : Hid (sumQ (ys.take (k + 1)) = sumQ (ys.take k) + ys[k].qty ∧ sumV (ys.take (k + 1)) = sumV (ys.take k) + ys[k].val) := sn
        have ok := hok ys[k] (List.getElem_mem hlt)
        rw [sn.1, sn.2] at st1
        clear sn hc
        generalize ys[k] = y at c0 c1 c2 st1 SN ok
        obtain ⟨id, qty, val⟩ := y
        unfold LayOK at ok
        simp only [layC, List.getElem?_cons_zero, List.getElem?_cons_succ, Nat.add_zero] at c0 c1 c2 st1 SN ok
        have HB := hb
        go_wp2
        go_roundw
        case rel => exact ⟨k + 1, by omega, by go_num, by rw [SN.out.1], by rw [SN.out.2], hb.alloc hb.size _⟩
        case measure => simp [intOf]; omega
      · obtain rfl : k = ys.length := by omega
        have e : ys.take ys.length = ys := List.take_length
        go_wp2
        go_ret2
        exact ⟨by rw [e]; rfl, hb⟩
end Go.Proofs.YtcfgacdcgljbaaaGreatDoor
namespace Go.Proofs.YtcfgacdcgljbaaaGreatDoor
open Go.RowKit
/-- A stock lies in block pb, its layers in a row of their own (the slice sv). -/
structure StkAt (w : World) (pb : Nat) (sv : Value) (s : Stk) : Prop where
  c0 : w.cell? ⟨pb, 0, none⟩ = some sv
  c1 : w.cell? ⟨pb, 1, none⟩ = some (.int .i64 s.price)
  f0 : w.frozen? ⟨pb, 0, none⟩ = false
  f1 : w.frozen? ⟨pb, 1, none⟩ = false
  lay : LayAt w sv s.ys
  ne : sv.ownBlock ≠ some pb
theorem StkAt.lt {w : World} {pb : Nat} {sv : Value} {s : Stk} (h : StkAt w pb sv s) : pb < w.heap.size := World.block_lt_of_cell? _ _ h.c0
theorem StkAt.below {w w' : World} {pb : Nat} {sv : Value} {s : Stk} (h : StkAt w pb sv s) (hb : Below w.heap.size w w') : StkAt w' pb sv s :=
  ⟨below_cell hb h.c0, below_cell hb h.c1, (hb.frozen (p := ⟨pb, 0, none⟩) h.lt).trans h.f0, (hb.frozen (p := ⟨pb, 1, none⟩) h.lt).trans h.f1, h.lay.below hb, h.ne⟩
theorem LayAt.setBox {w : World} {sv : Value} {pb o : Nat} {u : Value} {ys : List Lay} (h : LayAt w sv ys) (ne : sv.ownBlock ≠ some pb) : LayAt (w.setCell ⟨pb, o, none⟩ u) sv ys :=
  h.kept fun k hk => Below.heap_setCell _ _ _ _ (fun e => ne (by rw [hk, e]))
theorem StkAt.put0 {w : World} {pb : Nat} {sv sv' : Value} {s : Stk} {ys : List Lay} (c0 : w.cell? ⟨pb, 0, none⟩ = some sv) (c1 : w.cell? ⟨pb, 1, none⟩ = some (.int .i64 s.price)) (f0 : w.frozen? ⟨pb, 0, none⟩ = false) (f1 : w.frozen? ⟨pb, 1, none⟩ = false) (l : LayAt w sv' ys) (ne : sv'.ownBlock ≠ some pb) :
    StkAt (w.setCell ⟨pb, 0, none⟩ sv') pb sv' ⟨ys, s.price⟩ :=
  ⟨set_same c0, (set_other (by simp)).trans c1, set_frz.trans f0, set_frz.trans f1, l.setBox ne, ne⟩
theorem StkAt.put1 {w : World} {pb : Nat} {sv : Value} {s : Stk} (h : StkAt w pb sv s) (p : Int) : StkAt (w.setCell ⟨pb, 1, none⟩ (.int .i64 p)) pb sv ⟨s.ys, p⟩ :=
  ⟨(set_other (by simp)).trans h.c0, set_same h.c1, set_frz.trans h.f0, set_frz.trans h.f1, h.lay.setBox h.ne, h.ne⟩
def layZ : Value := .agg #[.int .i64 0, .int .i64 0, .int .i64 0]
theorem Tryz.infoLay : (Tryz.prog.info? 204).map (fun i => (i.zero, i.size, i.bytes)) = some (some layZ, 3, 24) := by kernel_rfl
/-- The stock behind what has turned its row alone. -/
theorem StkAt.grown {w w' : World} {pb : Nat} {sv sv' : Value} {s : Stk} {ys : List Lay} (h : StkAt w pb sv s) (hg : w.grownBy w' sv.ownBlock) (l : LayAt w' sv' ys) (hf : Fresh w sv sv') :
    StkAt (w'.setCell ⟨pb, 0, none⟩ sv') pb sv' ⟨ys, s.price⟩ ∧ w'.cell? ⟨pb, 0, none⟩ = some sv ∧ w'.frozen? ⟨pb, 0, none⟩ = false := by
  have e2 : w'.heap[pb]? = w.heap[pb]? := hg.block pb h.lt (fun e => h.ne e.symm)
  have k0 : w'.cell? ⟨pb, 0, none⟩ = some sv := (World.cell?_of_block (a := ⟨pb, 0, none⟩) e2).trans h.c0
  have k1 : w'.cell? ⟨pb, 1, none⟩ = some (.int .i64 s.price) := (World.cell?_of_block (a := ⟨pb, 1, none⟩) e2).trans h.c1
  have z0 : w'.frozen? ⟨pb, 0, none⟩ = false := (World.frozen?_of_block (a := ⟨pb, 0, none⟩) e2).trans h.f0
  have z1 : w'.frozen? ⟨pb, 1, none⟩ = false := (World.frozen?_of_block (a := ⟨pb, 1, none⟩) e2).trans h.f1
  have ne' : sv'.ownBlock ≠ some pb := fun e => by
    rcases hf pb e with x | x
    · exact h.ne x
    · have := h.lt; omega
  exact ⟨StkAt.put0 k0 k1 z0 z1 l ne', k0, z0⟩
set_option maxHeartbeats 1000000 in
theorem put_does {pb : Nat} {sv : Value} {s : Stk} {w : World} (h : StkAt w pb sv s) (hl : s.ys.length ≤ 1000000) (id q : Int) (hq : 0 ≤ q) (hq' : q ≤ 100000) (hp : 0 ≤ s.price ∧ s.price ≤ 1000000) :
    Calls Tryz.prog 148 #[.pointer (some ⟨pb, 0, none⟩), .int .i64 id, .int .i64 q] w fun r w' => r = .returned (.int .i64 (q * s.price)) ∧ ∃ sv', StkAt w' pb sv' ⟨s.ys ++ [⟨id, q, q * s.price⟩], s.price⟩ ∧ Turned w w' pb sv ∧ Fresh w sv sv' := by
  obtain ⟨i0, hi, hz0, hz1, hz2⟩ := info_parts Tryz.infoLay
  have c0 := h.c0
  have c1 := h.c1
  have m := mul_bound hq hq' hp.1 hp.2
  have HH : Hid (StkAt w pb sv s) := h
  clear h
  go_enter Tryz.func148, Tryz.ntmps148
  go_wp2_with (first
    | (at_builtin; refine wpList_append_lay _ rfl _ _ 194 rfl i0 layZ Tryz.underlying194 hi hz0 hz1 hz2 rfl sv s.ys rfl (HH.out.lay.below ((Below.refl _ _).alloc (Nat.le_refl _) _)) hl ⟨w.heap.size, 0, none⟩ 1 ⟨id, q, q * s.price⟩ rfl (cells_of_list rfl) ?_)
    | go_in)
  intro v' w2 l2 hgr hfr
  obtain ⟨ad', nn, cap', hv'⟩ := l2.slice
  subst hv'
  have hB1 : Below w.heap.size w (w.alloc (.cells (layC ⟨id, q, q * s.price⟩).toArray 204)) := (Below.refl _ _).alloc (Nat.le_refl _) _
  have H1 := HH.out.below hB1
  obtain ⟨k1, k0, z0⟩ := H1.grown hgr l2 hfr
  have K1 : Hid (StkAt (w2.setCell ⟨pb, 0, none⟩ (.slice ad' nn cap')) pb (.slice ad' nn cap') ⟨s.ys ++ [⟨id, q, q * s.price⟩], s.price⟩) := k1
  have HT : Hid (Turned w w2 pb sv) := (Turned.of_below hB1).trans (grown_turned hgr) (Fresh.refl _ _)
  have HF : Hid (Fresh w sv (.slice ad' nn cap')) := hfr.grow hB1.size
  clear k1 hgr hfr l2 H1 hB1 c0 c1
  go_wp2
  go_ret
  exact ⟨rfl, _, K1.out, HT.out.trans (turned_set _ _ _ sv _) (Fresh.refl _ _), HF.out⟩
end Go.Proofs.YtcfgacdcgljbaaaGreatDoor
namespace Go.Proofs.YtcfgacdcgljbaaaGreatDoor
open Go.RowKit
theorem LayAt.nilOf {w : World} {ad : Option Addr} {n cap : Nat} {ys : List Lay} (h : LayAt w (.slice ad n cap) ys) : n = ys.length := by
  rcases h with ⟨h, rfl⟩ | ⟨g, o, c, cur, h, _⟩
  · cases h; rfl
  · cases h; rfl
theorem addr_ne {g pb o o' : Nat} (h : g ≠ pb) : (⟨g, o, none⟩ : Addr) ≠ ⟨pb, o', none⟩ := fun e => h (by injection e)
theorem tk_done (ys : List Lay) (n : Int) (h : n ≤ 0 ∨ ys = []) : tk ys n = (ys, 0, n) := by
  cases ys with
  | nil => rfl
  | cons y ys =>
    rcases h with h | h
    · unfold tk; rw [if_pos h]
    · cases h
theorem tk_part (y : Lay) (ys : List Lay) (n : Int) (h0 : 0 < n) (h : n < y.qty) : tk (y :: ys) n = (⟨y.id, y.qty - n, y.val - y.val * n / y.qty⟩ :: ys, y.val * n / y.qty, 0) := by
  unfold tk; rw [if_neg (by omega), if_pos h]
theorem tk_whole (y : Lay) (ys : List Lay) (n : Int) (h0 : 0 < n) (h : ¬ n < y.qty) : tk (y :: ys) n = ((tk ys (n - y.qty)).1, y.val + (tk ys (n - y.qty)).2.1, (tk ys (n - y.qty)).2.2) := by
  conv => lhs; unfold tk
  rw [if_neg (by omega), if_neg h]
set_option maxHeartbeats 2000000 in
theorem take_does {pb : Nat} {sv : Value} {s : Stk} {w : World} (h : StkAt w pb sv s) (hok : ∀ y ∈ s.ys, LayOK y) (hv : sumV s.ys ≤ 4000000000000000000) (q : Int) (hq : 0 ≤ q) (hq' : q ≤ 1000000000) :
    Calls Tryz.prog 150 #[.pointer (some ⟨pb, 0, none⟩), .int .i64 q] w fun r w' => r = .returned (.tuple #[.int .i64 (tk s.ys q).2.1, .int .i64 (tk s.ys q).2.2]) ∧ ∃ sv', StkAt w' pb sv' ⟨(tk s.ys q).1, s.price⟩ ∧ Turned w w' pb sv ∧ Fresh w sv sv' := by
  have HV : Hid (sumV s.ys ≤ 4000000000000000000) := hv
  have HK : Hid (∀ y ∈ s.ys, LayOK y) := hok
  have H0 : Hid (StkAt w pb sv s) := h
  clear h hv hok
  go_enter Tryz.func150, Tryz.ntmps150
  go_wp2
  go_loopw [1, 4] (fun i j wr => ∃ (n v : Int) (ys : List Lay) (sv' : Value), i = .int .i64 n ∧ j = .int .i64 v ∧ 0 ≤ n ∧ n ≤ q ∧ Hid (StkAt wr pb sv' ⟨ys, s.price⟩) ∧ Hid (tk s.ys q = ((tk ys n).1, v + (tk ys n).2.1, (tk ys n).2.2)) ∧ Hid (∀ y ∈ ys, LayOK y) ∧ 0 ≤ v ∧ v + sumV ys = sumV s.ys ∧ ys.length ≤ s.ys.length ∧ Hid (Turned w wr pb sv ∧ Fresh w sv sv')) (fun i _ _ => (intOf i).toNat)
  case atStart => exact ⟨q, 0, s.ys, sv, rfl, rfl, hq, Int.le_refl _, H0, by show _ = _; simp, HK, Int.le_refl _, by omega, Nat.le_refl _, ⟨Turned.refl _ _ _, Fresh.refl _ _⟩⟩
  case round =>
    obtain ⟨n, v, ys, sv', rfl, rfl, hn0, hnq, HS, HT, HO, hv0, hvs, hyl, HF⟩ := hrel
    have c0 := HS.out.c0
    have done : ∀ (m : Int), tk ys n = (ys, 0, m) → ∀ r, r = Ending.returned (.tuple #[.int .i64 v, .int .i64 m]) → r = .returned (.tuple #[.int .i64 (tk s.ys q).2.1, .int .i64 (tk s.ys q).2.2]) ∧ ∃ sv'', StkAt wr pb sv'' ⟨(tk s.ys q).1, s.price⟩ ∧ Turned w wr pb sv ∧ Fresh w sv sv'' := fun m hm r hr => by
      refine ⟨?_, sv', ?_, HF.out.1, HF.out.2⟩
      · rw [hr, HT.out, hm]; simp
      · rw [HT.out, hm]; exact HS.out
    have DONE : Hid _ := done
    clear done
    by_cases hz : n = 0
    · subst hz
      have HD : Hid (tk ys 0 = (ys, 0, 0)) := tk_done ys 0 (Or.inl (Int.le_refl _))
      go_wp2
      go_ret2
      exact DONE.out 0 HD.out _ rfl
    · have hn1 : 0 < n := by omega
      rcases HS.out.lay.form with ⟨e1, e2⟩ | ⟨g, o, cap, e1, hg, hc1, hc2⟩
      · simp only at e2
        subst e1
        have HD : Hid (tk ys n = (ys, 0, n)) := tk_done ys n (Or.inr e2)
        go_wp2
        go_ret2
        exact DONE.out n HD.out _ rfl
      · subst e1
        cases ys with
        | nil =>
          have HD : Hid (tk [] n = ([], 0, n)) := rfl
          go_wp2
          go_ret2
          exact DONE.out n HD.out _ rfl
        | cons y ys =>
          clear DONE
          have hlc := fun j hj => (HS.out.lay.cell 0 j (by simp) hj).1
          have q0 := hlc 0 (by omega)
          have q1 := hlc 1 (by omega)
          have q2 := hlc 2 (by omega)
          have oky := HO.out y (List.mem_cons_self ..)
          have hsn := sum_nonneg (ys := ys) fun z hz => HO.out z (List.mem_cons_of_mem _ hz)
          have hvy : v + (y.val + sumV ys) = sumV s.ys := hvs
          have hvb : y.val ≤ 4000000000000000000 := by have := HV.out; omega
          have hgp : g ≠ pb := fun e => HS.out.ne (by simp [Value.ownBlock, e])
          have hgp' : pb ≠ g := fun e => hgp e.symm
          obtain ⟨id, qty, val⟩ := y
          have OKY : Hid (LayOK ⟨id, qty, val⟩) := oky
          unfold LayOK at oky
          simp only at oky hvb hvy
          simp only [layC, List.getElem_cons_zero, List.getElem?_cons_zero, List.getElem?_cons_succ, Nat.zero_mul, Nat.add_zero] at q0 q1 q2
          clear hlc hvs
          by_cases hlt : n < qty
          · have hw := fun W => worth_any ⟨id, qty, val⟩ n W OKY.out hvb hn0 (by simp only; omega)
            have hpl := part_le (v := val) (n := n) (q := qty) (by omega) hn0 (by omega) (by omega)
            have HD : Hid (tk (⟨id, qty, val⟩ :: ys) n = (⟨id, qty - n, val - val * n / qty⟩ :: ys, val * n / qty, 0)) := tk_part ⟨id, qty, val⟩ ys n hn1 hlt
            simp only at hw
            generalize val * n / qty = pt at hw hpl HD
            have hvp : v + pt ≤ 4000000000000000000 := by have := HV.out; omega
            go_wp2_with fail
            refine (hw _).mono ?_
            rintro e w1 ⟨rfl, hb1⟩
            have S1 := HS.out.below hb1
            have b0 := S1.c0
            have b1 := (S1.lay.cell 0 1 (by simp) (by omega))
            have b2 := (S1.lay.cell 0 2 (by simp) (by omega))
            simp only [layC, List.getElem_cons_zero, List.getElem?_cons_zero, List.getElem?_cons_succ, Nat.zero_mul, Nat.add_zero] at b1 b2
            obtain ⟨b1, z1⟩ := b1
            obtain ⟨b2, z2⟩ := b2
            have L2 := (S1.lay.set 0 1 (by simp) (by omega) (.int .i64 (qty - n)) ⟨id, qty - n, val⟩ rfl).set 0 2 (by simp) (by omega) (.int .i64 (val - pt)) ⟨id, qty - n, val - pt⟩ rfl
            simp only [List.set_cons_zero, Nat.zero_mul, Nat.add_zero] at L2
            have HL2 : Hid (LayAt _ _ _) := L2
            have HS1 : Hid (StkAt w1 pb _ _) := S1
            have HB1 : Hid (Below wr.heap.size wr w1) := hb1
            have qnz : ¬ qty - n = 0 := by omega
            clear hw L2 S1 hb1 q0 q1 q2 c0
            go_wp2
            go_roundw
            case rel =>
              have NE := HS1.out.ne
              have TU : Turned wr ((w1.setCell ⟨g, o + 1, none⟩ (.int .i64 (qty - n))).setCell ⟨g, o + 2, none⟩ (.int .i64 (val - pt))) pb (.slice (some ⟨g, o, none⟩) (⟨id, qty, val⟩ :: ys).length cap) :=
                (Turned.of_below HB1.out).trans ((turned_row _ g _ pb (.slice (some ⟨g, o, none⟩) (⟨id, qty, val⟩ :: ys).length cap) _ rfl).trans (turned_row _ g _ pb _ _ rfl) (Fresh.refl _ _)) (Fresh.refl _ _)
              refine ⟨0, v + pt, ⟨id, qty - n, val - pt⟩ :: ys, _, by go_num, rfl, Int.le_refl _, hq, ⟨?_, ?_, ?_, ?_, HL2.out, NE⟩, ?_, ?_, by omega, ?_, hyl, ?_⟩
              · exact (set_other (addr_ne hgp)).trans ((set_other (addr_ne hgp)).trans HS1.out.c0)
              · exact (set_other (addr_ne hgp)).trans ((set_other (addr_ne hgp)).trans HS1.out.c1)
              · exact set_frz.trans (set_frz.trans HS1.out.f0)
              · exact set_frz.trans (set_frz.trans HS1.out.f1)
              · show _ = _
                rw [HT.out, HD.out, tk_done _ _ (Or.inl (Int.le_refl _))]
                simp
              · intro z hz
                rcases List.mem_cons.1 hz with rfl | hm
                · refine ⟨?_, ?_, ?_⟩ <;> simp only <;> omega
                · exact HO.out z (List.mem_cons_of_mem _ hm)
              · simp only [sumV]; omega
              · exact ⟨HF.out.1.trans TU HF.out.2, HF.out.2⟩
            case measure => simp [intOf]; omega
          · have hw := fun W => worth_any ⟨id, qty, val⟩ qty W OKY.out hvb (by omega) (by simp only; omega)
            have hqq : val * qty / qty = val := Int.mul_ediv_cancel _ (by omega)
            have HD : Hid (tk (⟨id, qty, val⟩ :: ys) n = ((tk ys (n - qty)).1, val + (tk ys (n - qty)).2.1, (tk ys (n - qty)).2.2)) := tk_whole ⟨id, qty, val⟩ ys n hn1 hlt
            simp only at hw
            rw [hqq] at hw
            have hvp : v + val ≤ 4000000000000000000 := by have := HV.out; omega
            have REST : ∀ (W : World) (sv2 : Value), StkAt W pb sv2 ⟨ys, s.price⟩ → Turned wr W pb (.slice (some ⟨g, o, none⟩) (⟨id, qty, val⟩ :: ys).length cap) → Fresh wr (.slice (some ⟨g, o, none⟩) (⟨id, qty, val⟩ :: ys).length cap) sv2 →
                ∃ (n2 v2 : Int) (ys2 : List Lay) (sv2 : Value), Value.int .i64 (n - qty) = .int .i64 n2 ∧ Value.int .i64 (v + val) = .int .i64 v2 ∧ 0 ≤ n2 ∧ n2 ≤ q ∧ Hid (StkAt W pb sv2 ⟨ys2, s.price⟩) ∧ Hid (tk s.ys q = ((tk ys2 n2).1, v2 + (tk ys2 n2).2.1, (tk ys2 n2).2.2)) ∧ Hid (∀ y ∈ ys2, LayOK y) ∧ 0 ≤ v2 ∧ v2 + sumV ys2 = sumV s.ys ∧ ys2.length ≤ s.ys.length ∧ Hid (Turned w W pb sv ∧ Fresh w sv sv2) := fun W sv2 x1 x2 x3 => by
              refine ⟨n - qty, v + val, ys, sv2, rfl, rfl, by omega, by omega, x1, ?_, fun z hz => HO.out z (List.mem_cons_of_mem _ hz), by omega, by omega, by simp only [List.length_cons] at hyl; omega, ⟨HF.out.1.trans x2 HF.out.2, HF.out.2.trans x3 HF.out.1.size⟩⟩
              show _ = _
              rw [HT.out, HD.out]
              simp only [Int.add_assoc]
            have HREST : Hid _ := REST
            have hle : qty ≤ n := by omega
            have hmin : min n qty = qty := Int.min_eq_right hle
            clear REST
            have hcap : (cap = 1 ∧ ∀ x y : Nat, (if cap = 1 then x else y) = x) ∨ (¬ cap = 1 ∧ ∀ x y : Nat, (if cap = 1 then x else y) = y) := by
              by_cases e : cap = 1
              · exact Or.inl ⟨e, fun x y => if_pos e⟩
              · exact Or.inr ⟨e, fun x y => if_neg e⟩
            have HCAP : Hid _ := hcap
            clear hcap
            rcases Int.lt_or_eq_of_le hle with hc | hc
            rotate_left
            · subst hc
              go_wp2_with fail
              all_goals
                refine (hw _).mono ?_
                rintro e w1 ⟨rfl, hb1⟩
                have S1 := HS.out.below hb1
                have b0 := S1.c0
                have b1 := (S1.lay.cell 0 1 (by simp) (by omega))
                have b2 := (S1.lay.cell 0 2 (by simp) (by omega))
                simp only [layC, List.getElem_cons_zero, List.getElem?_cons_zero, List.getElem?_cons_succ, Nat.zero_mul, Nat.add_zero] at b1 b2
                obtain ⟨b1, z1⟩ := b1
                obtain ⟨b2, z2⟩ := b2
                have f0 := S1.f0
                have L2 := (S1.lay.set 0 1 (by simp) (by omega) (.int .i64 0) ⟨id, 0, val⟩ rfl).set 0 2 (by simp) (by omega) (.int .i64 0) ⟨id, 0, 0⟩ rfl
                simp only [List.set_cons_zero, Nat.zero_mul, Nat.add_zero] at L2
                have L3 := L2.tail
                obtain ⟨W2, hW2⟩ : ∃ W, W = (w1.setCell ⟨g, o + 1, none⟩ (.int .i64 0)).setCell ⟨g, o + 2, none⟩ (.int .i64 0) := ⟨_, rfl⟩
                rw [← hW2] at L2 L3
                have TU : Turned wr W2 pb (.slice (some ⟨g, o, none⟩) (⟨id, qty, val⟩ :: ys).length cap) := by
                  rw [hW2]
                  exact (Turned.of_below hb1).trans ((turned_row _ g _ pb (.slice (some ⟨g, o, none⟩) (⟨id, qty, val⟩ :: ys).length cap) _ rfl).trans (turned_row _ g _ pb _ _ rfl) (Fresh.refl _ _)) (Fresh.refl _ _)
                have d0 : W2.cell? ⟨pb, 0, none⟩ = some (.slice (some ⟨g, o, none⟩) (⟨id, qty, val⟩ :: ys).length cap) := by rw [hW2]; exact (set_other (addr_ne hgp)).trans ((set_other (addr_ne hgp)).trans S1.c0)
                have d1 : W2.cell? ⟨pb, 1, none⟩ = some (.int .i64 s.price) := by rw [hW2]; exact (set_other (addr_ne hgp)).trans ((set_other (addr_ne hgp)).trans S1.c1)
                have d2 : W2.frozen? ⟨pb, 0, none⟩ = false := by rw [hW2]; exact set_frz.trans (set_frz.trans S1.f0)
                have d3 : W2.frozen? ⟨pb, 1, none⟩ = false := by rw [hW2]; exact set_frz.trans (set_frz.trans S1.f1)
                have END := fun (c : Nat) (hc : ∃ (x : c = (if cap = 1 then o else o + 3)), True) => HREST.out (W2.setCell ⟨pb, 0, none⟩ (.slice (some ⟨g, c, none⟩) ys.length (cap - 1))) (.slice (some ⟨g, c, none⟩) ys.length (cap - 1))
                  (StkAt.put0 (s := ⟨ys, s.price⟩) d0 d1 d2 d3 (by obtain ⟨hx, _⟩ := hc; rw [hx]; exact L3) (by simp [Value.ownBlock, hgp]))
                  (TU.trans (turned_set _ _ _ (.slice (some ⟨g, o, none⟩) (⟨id, qty, val⟩ :: ys).length cap) _) (Fresh.refl _ _)) (fun k hk => Or.inl (by simpa [Value.ownBlock] using hk))
                have HEND : Hid _ := END
                have HW2 : Hid (W2 = _) := hW2
                clear hw L2 L3 S1 hb1 q0 q1 q2 c0 TU d1 d3 END hW2 d0 d2
                have hgo : qty ≤ 100000 := by omega
                rcases HCAP.out with ⟨k1, k2⟩ | ⟨k1, k2⟩
                · go_wp2
                  go_roundw
                  case rel =>
                    have X := HEND.out o ⟨(k2 o (o + 3)).symm, trivial⟩
                    rw [HW2.out, k1, Int.sub_self] at X
                    exact X
                  case measure => simp [intOf]; omega
                · go_wp2
                  go_roundw
                  case rel =>
                    have X := HEND.out (o + 3) ⟨(k2 o (o + 3)).symm, trivial⟩
                    rw [HW2.out, Int.sub_self] at X
                    exact X
                  case measure => simp [intOf]; omega
            · go_wp2_with fail
              refine (hw _).mono ?_
              rintro e w1 ⟨rfl, hb1⟩
              have S1 := HS.out.below hb1
              have b0 := S1.c0
              have b1 := (S1.lay.cell 0 1 (by simp) (by omega))
              have b2 := (S1.lay.cell 0 2 (by simp) (by omega))
              simp only [layC, List.getElem_cons_zero, List.getElem?_cons_zero, List.getElem?_cons_succ, Nat.zero_mul, Nat.add_zero] at b1 b2
              obtain ⟨b1, z1⟩ := b1
              obtain ⟨b2, z2⟩ := b2
              have f0 := S1.f0
              have L2 := (S1.lay.set 0 1 (by simp) (by omega) (.int .i64 0) ⟨id, 0, val⟩ rfl).set 0 2 (by simp) (by omega) (.int .i64 0) ⟨id, 0, 0⟩ rfl
              simp only [List.set_cons_zero, Nat.zero_mul, Nat.add_zero] at L2
              have L3 := L2.tail
              obtain ⟨W2, hW2⟩ : ∃ W, W = (w1.setCell ⟨g, o + 1, none⟩ (.int .i64 0)).setCell ⟨g, o + 2, none⟩ (.int .i64 0) := ⟨_, rfl⟩
              rw [← hW2] at L2 L3
              have TU : Turned wr W2 pb (.slice (some ⟨g, o, none⟩) (⟨id, qty, val⟩ :: ys).length cap) := by
                rw [hW2]
                exact (Turned.of_below hb1).trans ((turned_row _ g _ pb (.slice (some ⟨g, o, none⟩) (⟨id, qty, val⟩ :: ys).length cap) _ rfl).trans (turned_row _ g _ pb _ _ rfl) (Fresh.refl _ _)) (Fresh.refl _ _)
              have d0 : W2.cell? ⟨pb, 0, none⟩ = some (.slice (some ⟨g, o, none⟩) (⟨id, qty, val⟩ :: ys).length cap) := by rw [hW2]; exact (set_other (addr_ne hgp)).trans ((set_other (addr_ne hgp)).trans S1.c0)
              have d1 : W2.cell? ⟨pb, 1, none⟩ = some (.int .i64 s.price) := by rw [hW2]; exact (set_other (addr_ne hgp)).trans ((set_other (addr_ne hgp)).trans S1.c1)
              have d2 : W2.frozen? ⟨pb, 0, none⟩ = false := by rw [hW2]; exact set_frz.trans (set_frz.trans S1.f0)
              have d3 : W2.frozen? ⟨pb, 1, none⟩ = false := by rw [hW2]; exact set_frz.trans (set_frz.trans S1.f1)
              have END := fun (c : Nat) (hc : ∃ (x : c = (if cap = 1 then o else o + 3)), True) => HREST.out (W2.setCell ⟨pb, 0, none⟩ (.slice (some ⟨g, c, none⟩) ys.length (cap - 1))) (.slice (some ⟨g, c, none⟩) ys.length (cap - 1))
                (StkAt.put0 (s := ⟨ys, s.price⟩) d0 d1 d2 d3 (by obtain ⟨hx, _⟩ := hc; rw [hx]; exact L3) (by simp [Value.ownBlock, hgp]))
                (TU.trans (turned_set _ _ _ (.slice (some ⟨g, o, none⟩) (⟨id, qty, val⟩ :: ys).length cap) _) (Fresh.refl _ _)) (fun k hk => Or.inl (by simpa [Value.ownBlock] using hk))
              have HEND : Hid _ := END
              have HW2 : Hid (W2 = _) := hW2
              clear hw L2 L3 S1 hb1 q0 q1 q2 c0 TU d1 d3 END hW2 d0 d2
              have hgo : qty ≤ 100000 := by omega
              rcases HCAP.out with ⟨k1, k2⟩ | ⟨k1, k2⟩
              · go_wp2
                go_roundw
                case rel =>
                  have X := HEND.out o ⟨(k2 o (o + 3)).symm, trivial⟩
                  rw [HW2.out, k1] at X
                  exact X
                case measure => simp [intOf]; omega
              · go_wp2
                go_roundw
                case rel =>
                  have X := HEND.out (o + 3) ⟨(k2 o (o + 3)).symm, trivial⟩
                  rw [HW2.out] at X
                  exact X
                case measure => simp [intOf]; omega
end Go.Proofs.YtcfgacdcgljbaaaGreatDoor
