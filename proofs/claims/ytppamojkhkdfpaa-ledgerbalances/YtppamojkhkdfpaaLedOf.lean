/- The walk of tallymankeep.LedgerBalances' 'of'. -/
import Derived.Test.YtppamojkhkdfpaaLedTrial
import Derived.Test.YtppamojkhkdfpaaLedSum
import Derived.Test.YtppamojkhkdfpaaMixE
namespace Go.Proofs.Ytppamojkhkdfpaa
open Go.RowKit Go.Maps
theorem blcC_len (f : ByteArray → Int) (k : ByteArray) : (blcC f k).length = 2 := rfl
/-- So many balances have been looked at. -/
def OfDom (f : ByteArray → Int) (ks : List ByteArray) (x : ByteArray) : Prop := x ∈ ks ∧ f x ≠ 0
def ofVal (f : ByteArray → Int) (ks : List ByteArray) (x : ByteArray) : Int := if ks.any (fun y => decide (y = x)) = true then f x else 0
theorem ofVal_mem {f : ByteArray → Int} {ks : List ByteArray} {x : ByteArray} (h : x ∈ ks) : ofVal f ks x = f x := by
  unfold ofVal
  rw [if_pos (List.any_eq_true.2 ⟨x, h, by simp⟩)]
theorem ofVal_not {f : ByteArray → Int} {ks : List ByteArray} {x : ByteArray} (h : x ∉ ks) : ofVal f ks x = 0 := by
  unfold ofVal
  rw [if_neg]
  rw [List.any_eq_true]
  rintro ⟨y, hy, e⟩
  have e' : y = x := by simpa using e
  exact h (e' ▸ hy)
theorem grown_trans {a b c : World} {m : Option Nat} (h1 : a.grownBy b m) (h2 : b.grownBy c m) : a.grownBy c m :=
  ⟨h2.os.trans h1.os, h2.tape.trans h1.tape, h2.output.trans h1.output, Nat.le_trans h1.size h2.size, fun k hk hm => (h2.block k (Nat.lt_of_lt_of_le hk h1.size) hm).trans (h1.block k hk hm)⟩
theorem grown_refl (a : World) (m : Option Nat) : a.grownBy a m := ⟨rfl, rfl, rfl, Nat.le_refl _, fun _ _ _ => rfl⟩
set_option maxRecDepth 20000 in
set_option maxHeartbeats 4000000 in
theorem of_any (ps : List Pst) (v : Value) (w : World) (h : PstsAt w v ps) (hl : ps.length ≤ 10000) (hs : ∀ p ∈ ps, p.deb.size ≤ 1000 ∧ p.cre.size ≤ 1000) :
    Calls Try.prog 6 #[v] w fun r w' => ∃ (mb n : Nat) (D : DataW Value), r = .returned (.map (some mb)) ∧ w.heap.size ≤ mb ∧ IMap w' mb n D (fun x => bal x 0 ps) (fun x => bal x 0 ps ≠ 0) ∧ Below w.heap.size w w' := by
  have hmm := @run_makeMap Try.prog
  obtain ⟨w0, hw0⟩ : ∃ W, W = w.alloc (.map #[] 0) := ⟨_, rfl⟩
  have hm0 : IMap w0 w.heap.size 0 (.map []) (fun _ => 0) (fun _ => False) := by rw [hw0]; exact imap_new w
  have hb0 : Below w.heap.size w w0 := by rw [hw0]; exact (Below.refl _ _).alloc (Nat.le_refl _) _
  have htr := trial_any ps v w0 (h.below hb0) hl hs
  obtain ⟨ad, nv, cv, rfl⟩ : ∃ ad n cap, v = .slice ad n cap := by
    rcases h with ⟨e, e2⟩ | ⟨g, o, c, e, _⟩
    · exact ⟨none, 0, 0, e⟩
    · exact ⟨_, _, _, e⟩
  have HW0 := hidE hw0
  have HM0 := hidE hm0
  have HB0 := hidE hb0
  clear hw0 hm0 hb0 h
  go_enter Try.func6, Try.ntmps6
  go_wp2_with fail
  rw [← HW0.out]
  refine htr.mono ?_
  rintro r w1 ⟨u, ks, rfl, hks, hown, hb1⟩
  have hM1 := HM0.out.below hb1
  have hB1 : Below w.heap.size w w1 := HB0.out.trans (hb1.mono HB0.out.size)
  have hmw : w.heap.size < w0.heap.size := HM0.out.lt
  have hsum := sum_all ps ks hks.nodup (fun x hx => (hks.mem x).2 hx)
  have hnone : ∀ x, x ∉ ks → bal x 0 ps = 0 := fun x hx => by
    rw [bal_zero, sigs_none (fun c => hx ((hks.mem x).2 c))]; simp [wrap64]
  have hsz8 : ∀ x ∈ ks, x.size ≤ 1000 := fun x hx => by
    have := (hks.mem x).1 hx
    unfold accs at this
    rw [List.mem_flatMap] at this
    obtain ⟨p, hp, hx⟩ := this
    simp only [List.mem_cons, List.not_mem_nil, or_false] at hx
    rcases hx with rfl | rfl
    · exact (hs p hp).1
    · exact (hs p hp).2
  obtain ⟨f, hf⟩ : ∃ f : ByteArray → Int, f = fun x => bal x 0 ps := ⟨_, rfl⟩
  have hown2 : w1.ownsRow w0.heap.size 31 2 u ks.length (ks.flatMap (blcC f)) := by rw [hf]; exact hown
  have hI64 : ∀ x, I64 (f x) := fun x => by rw [hf]; simp only; rw [bal_zero]; exact i64_wrap _
  have HF := hidE hf
  have HSUM : Hid (ks.foldl (fun a k => wrap64 (a + f k)) 0 = 0) := by rw [hf]; exact hsum
  have HNO : Hid (∀ x, x ∉ ks → f x = 0) := by rw [hf]; exact hnone
  have HND := hidE hks.nodup
  have HSZ := hidE hsz8
  have HR := hidE hown2
  have HM1 := hidE hM1
  have HB1 := hidE hB1
  have HI := hidE hI64
  have hkl : ks.length ≤ maxLen := by
    rcases own_form hown2 with ⟨_, e, _⟩ | ⟨_, _, _, _, _, h1, h2⟩
    · rw [e]; exact Nat.zero_le _
    · omega
  obtain ⟨adk, nk, cpk, hu⟩ : ∃ ad n cap, u = .slice ad n cap ∧ n = ks.length := by
    rcases own_form hown2 with ⟨e, e2, _⟩ | ⟨g, c, e, _⟩
    · exact ⟨none, 0, 0, e, e2.symm⟩
    · exact ⟨_, _, _, e, rfl⟩
  obtain ⟨rfl, hnk⟩ := hu
  subst hnk
  clear htr hown hb1 hM1 hB1 hsum hnone hsz8 hf hown2 hI64 hks hs HW0 HM0
  unfold maxLen at hkl
  go_wp2
  go_loopw [5, 6] (fun s i wr => ∃ (k n : Nat) (D : DataW Value), k ≤ ks.length ∧ i = .int .i64 k ∧ n ≤ k ∧ s = .int .i64 ((ks.take k).foldl (fun a k => wrap64 (a + f k)) 0) ∧ Hid (IMap wr w.heap.size n D (ofVal f (ks.take k)) (OfDom f (ks.take k))) ∧ Hid (w1.grownBy wr (some w.heap.size))) (fun _ i _ => ks.length - (intOf i).toNat)
  case atStart => exact ⟨0, 0, _, Nat.zero_le _, rfl, Nat.le_refl _, rfl, ⟨HM1.out.map, fun x => by rw [HM1.out.at_ x]; rfl, fun x => by rw [HM1.out.has_]; simp [OfDom]⟩, grown_refl _ _⟩
  case round =>
    obtain ⟨k, n, D, hk, rfl, hn, rfl, HM, HX⟩ := hrel
    by_cases hlt : k < ks.length
    · have HR2 : Hid (wr.ownsRow w0.heap.size 31 2 (.slice adk ks.length cpk) ks.length (ks.flatMap (blcC f))) := row_same HR.out fun j hj => HX.out.block j (HR.out.lt j hj).2 (by intro e; injection e with e; have := (HR.out.lt j hj).1; omega)
      rcases own_form HR2.out with ⟨_, e2, _⟩ | ⟨g, cp, e1, hg0, hgl, _⟩
      · rw [e2] at hlt; exact absurd hlt (Nat.not_lt_zero _)
      · simp only [Value.slice.injEq] at e1
        obtain ⟨rfl, _, rfl⟩ := e1
        have q0 := (own_cell (blcC_len f) HR2.out k 0 hlt (by omega)).1
        have q1 := (own_cell (blcC_len f) HR2.out k 1 hlt (by omega)).1
        have HTK : Hid (ks.take (k + 1) = ks.take k ++ [ks[k]]) := List.take_succ_eq_append_getElem hlt
        have hnm : ks[k] ∉ ks.take k := fun hm => by
          obtain ⟨j, hj, e⟩ := List.getElem_of_mem hm
          rw [List.length_take] at hj
          rw [List.getElem_take] at e
          exact (List.pairwise_iff_getElem.1 HND.out) j k (by omega) hlt (by omega) e
        have hxs := HSZ.out ks[k] (List.getElem_mem hlt)
        obtain ⟨x, hx⟩ : ∃ x, x = ks[k] := ⟨_, rfl⟩
        rw [← hx] at q0 q1 HTK hnm hxs
        simp only [blcC, List.getElem?_cons_zero, List.getElem?_cons_succ, Nat.add_zero] at q0 q1
        have HNM := hidE hnm
        obtain ⟨s0, hs0⟩ : ∃ s, s = (ks.take k).foldl (fun a k => wrap64 (a + f k)) 0 := ⟨_, rfl⟩
        have HS1 : Hid ((ks.take (k + 1)).foldl (fun a k => wrap64 (a + f k)) 0 = wrap64 (s0 + f x)) := by
          show _ = _
          rw [HTK.out, List.foldl_append, ← hs0]; rfl
        rw [← hs0]
        have HHV : Hid (∀ z, OfDom f (ks.take (k + 1)) z ↔ ((z = x ∧ f x ≠ 0) ∨ OfDom f (ks.take k) z)) := fun z => by
          rw [HTK.out]
          unfold OfDom
          rw [List.mem_append, List.mem_singleton]
          constructor
          · rintro ⟨h1 | h1, h2⟩
            · exact Or.inr ⟨h1, h2⟩
            · subst h1; exact Or.inl ⟨rfl, h2⟩
          · rintro (⟨rfl, h2⟩ | ⟨h1, h2⟩)
            · exact ⟨Or.inr rfl, h2⟩
            · exact ⟨Or.inl h1, h2⟩
        have HVV : Hid (∀ z, ofVal f (ks.take (k + 1)) z = if z = x then f x else ofVal f (ks.take k) z) := fun z => by
          by_cases e : z = x
          · subst e; rw [if_pos rfl, ofVal_mem]; rw [HTK.out]; simp
          · rw [if_neg e]
            by_cases hm : z ∈ ks.take k
            · rw [ofVal_mem hm, ofVal_mem]; rw [HTK.out]; simp [hm]
            · rw [ofVal_not hm, ofVal_not]; rw [HTK.out]; simp [hm, e]
        have hfi := HI.out x
        obtain ⟨y, hy⟩ : ∃ y, y = f x := ⟨_, rfl⟩
        rw [← hy] at q1 HS1 HHV HVV hfi
        have HY := hidE hy
        have hmw2 : w.heap.size < wr.heap.size := HM.out.lt
        clear hx hs0 hy hnm
        by_cases hy0 : y = 0
        · have HM2 : Hid (IMap wr w.heap.size n D (ofVal f (ks.take (k + 1))) (OfDom f (ks.take (k + 1)))) := imap_ext HM.out (fun z => by
            rw [HVV.out z]
            by_cases e : z = x
            · subst e; rw [if_pos rfl, ofVal_not HNM.out, hy0]
            · rw [if_neg e]) (fun z => by rw [HHV.out z]; simp [hy0])
          subst hy0
          go_wp2
          go_roundw
          case rel => exact ⟨k + 1, n, D, by omega, by go_num, by omega, by rw [HS1.out, Int.add_zero], HM2, HX⟩
          case measure => simp [intOf]; omega
        · have hne : (y == 0) = false := by simpa using hy0
          go_wp2_with fail
          refine wp_region_turn [(.pure, 0), (.pure, 1), (.pure, 2), (.pure, 3), (.pure, 4), (.read, 5), (.pure, 6), (.pure, 7), (.pure, 8), (.pure, 9), (.read, 10), (.turn, 11)] (by kernel_rfl) (by kernel_rfl) ?_
          obtain ⟨W2, hW2⟩ : ∃ W, W = wr.drew := ⟨_, rfl⟩
          rw [← hW2]
          have hb2 : Below wr.heap.size wr W2 := by rw [hW2]; exact below_drew _
          have hg2 : wr.grownBy W2 (some w.heap.size) := by rw [hW2]; exact ⟨rfl, rfl, rfl, Nat.le_refl _, fun _ _ _ => rfl⟩
          clear hW2
          have f0 := fun n : Up W2 => n.cell (below_cellL hb2 q0)
          have f1 := fun n : Up W2 => n.cell (below_cellL hb2 q1)
          have hU := up_ne
          have hA := anyW_ne
          have HM2 := hidE (HM.out.below hb2)
          have HX2 := hidE (grown_trans HX.out hg2)
          clear hb2 hg2 q0 q1
          repeat (first | refine turn_p rfl ?_ | refine turn_q rfl ?_); go_big_quiet_step (fail); refine wpQuiet_nil ?_
          refine turn_t rfl ?_
          refine wpList_mapUpdate_own _ rfl _ _ _ 27 rfl 9 3 law_strT Try.underlying27 heldE w.heap.size n D rfl HM2.out.map (by unfold maxLen; omega) _ _ (keyB x) rfl rfl (key_str x (by unfold maxLen; omega)) (.held (.int .i64 y)) [] rfl ?_
          intro w3 hm3 hg3
          have HM3 : Hid (IMap w3 w.heap.size (n + 1) _ (ofVal f (ks.take (k + 1))) (OfDom f (ks.take (k + 1)))) := imap_ext (HM2.out.put hm3) (fun z => by rw [HVV.out z]) (fun z => by rw [HHV.out z]; simp [hy0])
          have HX3 : Hid (w1.grownBy w3 (some w.heap.size)) := grown_trans HX2.out hg3
          clear hm3 hg3 f0 f1
          go_wp2_with fail
          refine ⟨rfl, ?_⟩
          refine turn_nil ?_
          go_wp2
          go_roundw
          case rel => exact ⟨k + 1, n + 1, _, by omega, by go_num, by omega, by rw [HS1.out], HM3, HX3⟩
          case measure => simp [intOf]; omega
    · obtain rfl : k = ks.length := by omega
      rw [List.take_length] at HM ⊢
      rw [HSUM.out]
      have HM2 : Hid (IMap wr w.heap.size n D (fun x => bal x 0 ps) (fun x => bal x 0 ps ≠ 0)) := imap_ext HM.out (fun z => by
          have e : bal z 0 ps = f z := by rw [HF.out]
          rw [e]
          by_cases hm : z ∈ ks
          · rw [ofVal_mem hm]
          · rw [ofVal_not hm, HNO.out z hm]) (fun z => by
          have e : bal z 0 ps = f z := by rw [HF.out]
          rw [e]
          unfold OfDom
          constructor
          · intro h
            exact ⟨Classical.byContradiction fun hm => h (HNO.out z hm), h⟩
          · exact fun h => h.2)
      have HB2 : Hid (Below w.heap.size w wr) := HB1.out.grown HX.out HB1.out.size (fun j e => by cases e; exact Nat.le_refl _)
      go_wp2
      go_ret
      exact ⟨_, n, D, rfl, Nat.le_refl _, HM2.out, HB2.out⟩
end Go.Proofs.Ytppamojkhkdfpaa
