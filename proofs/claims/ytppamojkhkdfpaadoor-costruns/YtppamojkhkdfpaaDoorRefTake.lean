/- The walk of (*tallymanref.Result).take. -/
import Derived.Test.YtppamojkhkdfpaaDoorBnF
import Derived.Test.YtppamojkhkdfpaaDoorBnE
import Derived.Test.YtppamojkhkdfpaaDoorBnN
namespace Go.Proofs.YtppamojkhkdfpaaDoor
open Go.RowKit Go.Maps
theorem tkR_took {ys : List Lay} (ok : ∀ y ∈ ys, LayOK y) {q : Int} (hq : 0 ≤ q) (k : Nat) : Took (ys.take k) q (tkR ([], 0, q) (ys.take k)) := by
  have h := tkR_is (ys.take k) [] 0 q (fun y hy => ok y (List.mem_of_mem_take hy)) hq
  rw [List.nil_append, Int.zero_add] at h
  rw [h]
  exact tk_took _ _ (fun y hy => ok y (List.mem_of_mem_take hy)) hq
theorem share_bd (val k q : Int) (hv : 0 ≤ val) (hk : 0 ≤ k) (hkq : k ≤ q) (hq : 1 ≤ q) : 0 ≤ shr val k q ∧ shr val k q ≤ val := by
  unfold shr
  refine ⟨Int.ediv_nonneg (Int.mul_nonneg hv hk) (by omega), ?_⟩
  have h1 : val * k ≤ val * q := Int.mul_le_mul_of_nonneg_left hkq hv
  have h2 : val * k / q ≤ val * q / q := Int.ediv_le_ediv (by omega) h1
  rw [Int.mul_ediv_cancel _ (by omega)] at h2
  exact h2
/-- One item's layers are others now. -/
theorem RLay.put {B : Nat} {W w1 w2 : World} {mb n : Nat} {D : DataW Value} {V : ByteArray → Value} {M : ByteArray → List Lay} (h : RLay B W mb n D V M) (hBW : B ≤ W.heap.size) (hb : Below W.heap.size W w1) (x : ByteArray) (v : Value) (ys : List Lay)
    (hl : LayAt w1 v ys) (hf : ∀ k, v.ownBlock = some k → W.heap.size ≤ k) (hm : w2.ownsMap Tryd.prog 9 heldE mb (n + 1) (D.put (keyB x) (.held v))) (hg : w1.grownBy w2 (some mb)) :
    RLay B w2 mb (n + 1) (D.put (keyB x) (.held v)) (fun z => if z = x then v else V z) (fun z => if z = x then ys else M z) := by
  have isM : IsMap D := (h.map.canon law_strT).imp fun es ⟨e, _⟩ => e
  have hmb : mb < W.heap.size := h.map.lt
  have vlt : ∀ z k, (V z).ownBlock = some k → k < W.heap.size := fun z k hk => (h.lay z).lt hk
  refine ⟨hm, fun z => ?_, fun z => ?_, fun z k hk => ?_, fun z y hne k hk => ?_⟩
  · by_cases e : z = x
    · subst e
      rw [if_pos rfl, atKey_put_same isM (keyB_key z)]
    · rw [if_neg e, atKey_put_other (fun c => e (keyB_inj c)), h.at_ z]
  · by_cases e : z = x
    · subst e
      simp only [if_true]
      exact hl.kept fun k hk => hg.block k (hl.lt hk) (by have := hf k hk; simp; omega)
    · simp only [e, if_false]
      refine (h.lay z).kept fun k hk => ?_
      rw [hg.block k (Nat.lt_of_lt_of_le (vlt z k hk) hb.size) (fun c => (h.ge z k hk).2 (by injection c)), hb.block k (vlt z k hk)]
  · by_cases e : z = x
    · subst e
      simp only [if_true] at hk
      have := hf k hk
      omega
    · simp only [e, if_false] at hk
      exact h.ge z k hk
  · by_cases e : z = x
    · subst e
      simp only [if_true] at hk
      rw [if_neg (fun c => hne c.symm)]
      intro c
      have := vlt y k c
      have := hf k hk
      omega
    · simp only [e, if_false] at hk
      by_cases e2 : y = x
      · subst e2
        simp only [if_true]
        intro c
        have := vlt z k hk
        have := hf k c
        omega
      · simp only [e2, if_false]
        exact h.ne z y hne k hk
set_option maxRecDepth 20000 in
set_option maxHeartbeats 4000000 in
theorem refTake_any {B : Nat} {W : World} {rb mb n : Nat} {D : DataW Value} {V : ByteArray → Value} {M : ByteArray → List Lay} (h : RLay B W mb n D V M) (hr : W.cell? ⟨rb, 1, none⟩ = some (.map (some mb))) (hBW : B ≤ W.heap.size) (x : ByteArray) (hx : x.size ≤ maxLen) (q : Int) (hq : 0 ≤ q) (hq' : q ≤ 1000000000)
    (hok : ∀ y ∈ M x, LayOK y) (hv : sumV (M x) ≤ 20000000000000) (hl : (M x).length ≤ 1000) (hn : n < 1000000) (hgl : TabG W) :
    Calls Tryd.prog 19 #[.pointer (some ⟨rb, 0, none⟩), .string x, .int .i64 q] W fun r w' => r = .returned (.tuple #[.int .i64 (tk (M x) q).2.1, .int .i64 (tk (M x) q).2.2]) ∧
      ∃ nv, RLay B w' mb (n + 1) (D.put (keyB x) (.held nv)) (fun z => if z = x then nv else V z) (fun z => if z = x then (tk (M x) q).1 else M z) ∧ (∀ k, nv.ownBlock = some k → W.heap.size ≤ k) ∧ W.grownBy w' (some mb) := by
  obtain ⟨i0, hi, hz0, hz1, hz2⟩ := info_parts Tryd.infoLay
  have h1 := h.look x hx
  have h2 := h.lay x
  have HR : Hid (RLay B W mb n D V M) := h
  obtain ⟨ys, hys⟩ : ∃ ys, ys = M x := ⟨_, rfl⟩
  rw [← hys] at h2 hok hv hl
  rw [← hys]
  have HOK : Hid (∀ y ∈ ys, LayOK y) := hok
  have HG : Hid (TabG W) := hgl
  have HTK : Hid (tkR ([], 0, q) ys = tk ys q) := by
    show _ = _
    have := tkR_is ys [] 0 q hok hq
    rw [List.nil_append, Int.zero_add] at this
    exact this
  obtain ⟨ad2, n2, cp2, hv2⟩ := h2.slice
  rw [hv2] at h1 h2
  have hn2 := h2.nilOf
  subst hn2
  have H2 : Hid (LayAt W (.slice ad2 ys.length cp2) ys) := h2
  clear hys hv2 h hgl h2
  go_enter Tryd.func19, Tryd.ntmps19
  go_wp2_with fail
  clear h1
  go_loopw [2, 6, 8, 21] (fun nv vv lv i wr => ∃ k : Nat, k ≤ ys.length ∧ i = .int .i64 k ∧ nv = .int .i64 (tkR ([], 0, q) (ys.take k)).2.2 ∧ vv = .int .i64 (tkR ([], 0, q) (ys.take k)).2.1 ∧ Hid (LayAt wr lv (tkR ([], 0, q) (ys.take k)).1) ∧ Hid (∀ j, lv.ownBlock = some j → W.heap.size ≤ j) ∧ Below W.heap.size W wr) (fun _ _ _ i _ => ys.length - (intOf i).toNat)
  case atStart => exact ⟨0, Nat.zero_le _, rfl, rfl, rfl, LayAt.nil _, fun j hj => (by cases hj), Below.refl _ _⟩
  case round =>
    obtain ⟨k, hk, rfl, rfl, rfl, HL, HF, hb⟩ := hrel
    by_cases hlt : k < ys.length
    · rcases H2.out.form with ⟨e, e2⟩ | ⟨g, o, cap, e, hg, hc1, hc2⟩
      · rw [e2] at hlt; exact absurd hlt (Nat.not_lt_zero _)
      · simp only [Value.slice.injEq] at e
        obtain ⟨rfl, _, rfl⟩ := e
        have hc := fun j hj => ((H2.out.below hb).cell k j hlt hj).1
        have c0 := hc 0 (by omega)
        have c1 := hc 1 (by omega)
        have c2 := hc 2 (by omega)
        have st := sum_take HOK.out k
        have st1 := sum_take HOK.out (k + 1)
        have sn := sum_snoc ys k hlt
        rw [sn.1, sn.2] at st1
        have tt := tkR_took HOK.out hq k
        have hstep := tkR_snoc ([], 0, q) ys k hlt
        have ok := HOK.out ys[k] (List.getElem_mem hlt)
        clear sn hc
        obtain ⟨T, hT⟩ : ∃ T, T = tkR ([], 0, q) (ys.take k) := ⟨_, rfl⟩
        rw [← hT] at tt hstep HL
        rw [← hT]
        generalize ys[k] = y at c0 c1 c2 st1 ok hstep
        obtain ⟨id, qty, val⟩ := y
        obtain ⟨tl, tv, tm⟩ := T
        have HS : Hid (tkR ([], 0, q) (ys.take (k + 1)) = tkStep (tl, tv, tm) ⟨id, qty, val⟩) := hstep
        unfold LayOK at ok
        simp only [layC, List.getElem?_cons_zero, List.getElem?_cons_succ, Nat.add_zero] at c0 c1 c2 st1 ok
        have hmb : 0 ≤ tm ∧ tm ≤ q := by
          have f := tt.few
          have m := tt.many
          simp only at f m
          rcases Int.lt_or_le (sumQ (ys.take k)) q with a | a
          · have := (m a).2; omega
          · have := (f a).2; omega
        have htv : 0 ≤ tv ∧ tv ≤ 20000000000000 := by
          have a := tt.val
          have b := tt.pos
          have c := (sum_nonneg tt.ok).2
          simp only at a b c
          omega
        have htl : tl.length ≤ 1000 := by have := tt.len; simp only [List.length_take] at this; omega
        clear hT tt hstep
        simp only
        obtain ⟨W1, hW1⟩ : ∃ X, X = wr.alloc (.cells #[.int .i64 id, .int .i64 qty, .int .i64 val] 58) := ⟨_, rfl⟩
        have b1 : Below wr.heap.size wr W1 := by rw [hW1]; exact (Below.refl _ _).alloc (Nat.le_refl _) _
        have hB1 : Below W.heap.size W W1 := hb.trans (b1.mono hb.size)
        have y0 : W1.cell? ⟨wr.heap.size, 0, none⟩ = some (.int .i64 id) := by rw [hW1]; simp
        have y1 : W1.cell? ⟨wr.heap.size, 1, none⟩ = some (.int .i64 qty) := by rw [hW1]; simp
        have y2 : W1.cell? ⟨wr.heap.size, 2, none⟩ = some (.int .i64 val) := by rw [hW1]; simp
        have hs1 : wr.heap.size < W1.heap.size := by rw [hW1]; simp
        have HW1 : Hid (W1 = _) := hW1
        have hvl : val ≤ 20000000000000 := by omega
        clear hW1
        by_cases hc : tm < qty
        · have hpa := refPart_ok val tm qty W1 (HG.out.below hB1) ok.2.2 hvl hmb.1 (by omega) ok.1 ok.2.1
          have hsh := share_bd val tm qty ok.2.2 hmb.1 (by omega) ok.1
          obtain ⟨sv, hsv⟩ : ∃ v, v = shr val tm qty := ⟨_, rfl⟩
          rw [← hsv] at hpa hsh
          have HSV : Hid (tkStep (tl, tv, tm) ⟨id, qty, val⟩ = (tl ++ [⟨id, qty - tm, val - sv⟩], tv + sv, 0)) := by
            show _ = _
            unfold tkStep few
            simp only [hc, if_true, Int.sub_self]
            rw [hsv]; rfl
          clear hsv
          go_wp2_with fail
          rw [← HW1.out]
          refine hpa.mono ?_
          rintro e w2 ⟨rfl, b2⟩
          clear hpa
          have z0 := below_cell b2 y0
          have z1 := below_cell b2 y1
          have z2 := below_cell b2 y2
          have hB2 : Below W.heap.size W w2 := hB1.trans (b2.mono hB1.size)
          have HL2 : Hid (LayAt w2 u8 tl) := (HL.out.below b1).below b2
          clear y0 y1 y2 c0 c1 c2 HW1
          go_wp2_with (first
            | (at_builtin; refine wpList_append_lay _ rfl _ _ 34 rfl i0 layZ Tryd.underlying34 hi hz0 hz1 hz2 rfl u8 tl rfl (HL2.out.below ((Below.refl _ _).alloc (Nat.le_refl _) _)) (by omega) ⟨w2.heap.size, 0, none⟩ 1 ⟨id, qty - tm, val - sv⟩ rfl (cells_of_list rfl) ?_)
            | go_in)
          intro v' w3 hl3 hgr hfr
          have hB3 : Below W.heap.size W (w2.alloc (.cells (layC ⟨id, qty - tm, val - sv⟩).toArray 58)) := hB2.alloc hB2.size _
          have hs2 : W.heap.size ≤ w2.heap.size := hB2.size
          have hB4 : Below W.heap.size W w3 := hB3.grown hgr hB3.size (fun j hj => HF.out j hj)
          obtain ⟨ad3, n3, cp3, hv3⟩ := hl3.slice
          subst hv3
          have HL3 : Hid (LayAt w3 (.slice ad3 n3 cp3) (tl ++ [⟨id, qty - tm, val - sv⟩])) := hl3
          have HF3 : Hid (∀ j, (Value.slice ad3 n3 cp3).ownBlock = some j → W.heap.size ≤ j) := fun j hj => by
            rcases hfr j hj with a | a
            · exact HF.out j a
            · have : w2.heap.size ≤ j := by simp at a; omega
              omega
          clear hl3 hgr hfr z0 z1 z2
          go_wp2
          go_roundw
          case rel =>
            refine ⟨k + 1, by omega, by go_num, ?_, ?_, ?_, HF3, hB4⟩
            · rw [HS.out, HSV.out]
            · rw [HS.out, HSV.out]
            · show LayAt _ _ _
              rw [HS.out, HSV.out]
              exact HL3.out
          case measure => simp [intOf]; omega
        · have hpa := refPart_ok val qty qty W1 (HG.out.below hB1) ok.2.2 hvl (by omega) (Int.le_refl _) ok.1 ok.2.1
          have hsv : shr val qty qty = val := Int.mul_ediv_cancel _ (by omega)
          rw [hsv] at hpa
          have HSV : Hid (tkStep (tl, tv, tm) ⟨id, qty, val⟩ = (tl, tv + val, tm - qty)) := by
            show _ = _
            unfold tkStep few
            have hd : val * qty / qty = val := hsv
            simp only [hc, if_false, Int.lt_irrefl, hd]
          clear hsv
          go_wp2_with fail
          rw [← HW1.out]
          refine hpa.mono ?_
          rintro e w2 ⟨rfl, b2⟩
          clear hpa
          have z0 := below_cell b2 y0
          have z1 := below_cell b2 y1
          have z2 := below_cell b2 y2
          have hB2 : Below W.heap.size W w2 := hB1.trans (b2.mono hB1.size)
          have HL2 : Hid (LayAt w2 u8 tl) := (HL.out.below b1).below b2
          clear y0 y1 y2 c0 c1 c2 HW1
          go_wp2
          go_roundw
          case rel =>
            refine ⟨k + 1, by omega, by go_num, ?_, ?_, ?_, HF, hB2⟩
            · rw [HS.out, HSV.out]
            · rw [HS.out, HSV.out]
            · show LayAt _ _ _
              rw [HS.out, HSV.out]
              exact HL2.out
          case measure => simp [intOf]; omega
    · obtain rfl : k = ys.length := by omega
      rw [List.take_length, HTK.out] at HL
      rw [List.take_length, HTK.out]
      obtain ⟨ad3, n3, cp3, hv3⟩ := HL.out.slice
      subst hv3
      have hrw : wr.cell? ⟨rb, 1, none⟩ = some (.map (some mb)) := (hb.cell (p := ⟨rb, 1, none⟩) (World.block_lt_of_cell? _ _ hr)).trans hr
      have HM : Hid (wr.ownsMap Tryd.prog 9 heldE mb n D) := map_same HR.out.map (hb.block _ HR.out.map.lt)
      have hnm : n < maxLen := by unfold maxLen; omega
      go_wp2_with (first
        | (at_mapUpdate; refine wpList_mapUpdate_own _ rfl _ _ _ 26 rfl 9 34 law_strT Tryd.underlying26 heldE mb n D rfl HM.out hnm _ _ (keyB x) rfl rfl (key_str x hx) (.held (.slice ad3 n3 cp3)) [] rfl ?_)
        | go_in)
      intro w3 m3 g3
      have HRP := HR.out.put hBW hb x _ _ HL.out HF.out m3 g3
      have hgw : W.grownBy w3 (some mb) := ⟨g3.os.trans hb.os, g3.tape.trans hb.tape, g3.output.trans hb.output, Nat.le_trans hb.size g3.size, fun j hj hne => (g3.block j (Nat.lt_of_lt_of_le hj hb.size) hne).trans (hb.block j hj)⟩
      have HFIN : Hid _ := And.intro HRP (And.intro HF.out hgw)
      clear HRP hgw m3 g3 hrw
      go_wp2
      go_ret2
      exact ⟨rfl, _, HFIN.out.1, HFIN.out.2.1, HFIN.out.2.2⟩
end Go.Proofs.YtppamojkhkdfpaaDoor
