/- The walk of (*tallymanref.Result).take. A region that draws its order, some of whose operations make memory beside each other: reads first, then each order by itself. A region that draws its order, whose operations keep to a relation, but for some that come behind all reads: reads first, then each order by itself. The walk of the function of tallymanref.Run that lays a layer. -/
import Derived.Test.YtcfgacdcgljbaaaGreatDoorBnT
import Derived.Test.YtcfgacdcgljbaaaGreatDoorBnN
import Derived.Test.YtcfgacdcgljbaaaGreatDoorCoIdx
import Derived.Test.YtcfgacdcgljbaaaGreatDoorBnU
import Derived.Test.YtcfgacdcgljbaaaGreatDoorBnA
import Derived.Test.YtcfgacdcgljbaaaGreatDoorMixK
namespace Go.Proofs.YtcfgacdcgljbaaaGreatDoor
open Go.RowKit Go.Maps
theorem tkR_took {ys : List Lay} (ok : ∀ y ∈ ys, LayOK y) {q : Int} (hq : 0 ≤ q) (k : Nat) : Took (ys.take k) q (tkR ([], 0, q) (ys.take k)) := by
  have h := tkR_is (ys.take k) [] 0 q (fun y hy => ok y (List.mem_of_mem_take hy)) hq
  rw [List.nil_append, Int.zero_add] at h
  rw [h]
  exact tk_took _ _ (fun y hy => ok y (List.mem_of_mem_take hy)) hq
theorem share_bd (val k q : Int) (hv : 0 ≤ val) (hk : 0 ≤ k) (hkq : k ≤ q) (hq : 1 ≤ q) : 0 ≤ shr val k q ∧ shr val k q ≤ val := by
  unfold shr
  refine ⟨Int.ediv_nonneg (Int.mul_nonneg hv hk) (by omega), ?_⟩
  have h1 : val * k ≤ val * q := Int.mul_le_mul_of_nonneg_left hkq hv
  have h2 : val * k / q ≤ val * q / q := Int.ediv_le_ediv (by omega) h1
  rw [Int.mul_ediv_cancel _ (by omega)] at h2
  exact h2
/-- One item's layers are others now. -/
theorem RLay.put {B : Nat} {W w1 w2 : World} {mb n : Nat} {D : DataW Value} {V : ByteArray → Value} {M : ByteArray → List Lay} (h : RLay B W mb n D V M) (hBW : B ≤ W.heap.size) (hb : Below W.heap.size W w1) (x : ByteArray) (v : Value) (ys : List Lay)
    (hl : LayAt w1 v ys) (hf : ∀ k, v.ownBlock = some k → W.heap.size ≤ k) (hm : w2.ownsMap Tryz.prog 9 heldE mb (n + 1) (D.put (keyB x) (.held v))) (hg : w1.grownBy w2 (some mb)) :
    RLay B w2 mb (n + 1) (D.put (keyB x) (.held v)) (fun z => if z = x then v else V z) (fun z => if z = x then ys else M z) := by
  have isM : IsMap D := (h.map.canon law_strT).imp fun es ⟨e, _⟩ => e
  have hmb : mb < W.heap.size := h.map.lt
  have vlt : ∀ z k, (V z).ownBlock = some k → k < W.heap.size := fun z k hk => (h.lay z).lt hk
  refine ⟨hm, fun z => ?_, fun z => ?_, fun z k hk => ?_, fun z y hne k hk => ?_⟩
  · by_cases e : z = x
    · subst e
      rw [if_pos rfl, atKey_put_same isM (keyB_key z)]
    · rw [if_neg e, atKey_put_other (fun c => e (keyB_inj c)), h.at_ z]
  · by_cases e : z = x
    · subst e
      simp only [if_true]
      exact hl.kept fun k hk => hg.block k (hl.lt hk) (by have := hf k hk; simp; omega)
    · simp only [e, if_false]
      refine (h.lay z).kept fun k hk => ?_
      rw [hg.block k (Nat.lt_of_lt_of_le (vlt z k hk) hb.size) (fun c => (h.ge z k hk).2 (by injection c)), hb.block k (vlt z k hk)]
  · by_cases e : z = x
    · subst e
      simp only [if_true] at hk
      have := hf k hk
      omega
    · simp only [e, if_false] at hk
      exact h.ge z k hk
  · by_cases e : z = x
    · subst e
      simp only [if_true] at hk
      rw [if_neg (fun c => hne c.symm)]
      intro c
      have := vlt y k c
      have := hf k hk
      omega
    · simp only [e, if_false] at hk
      by_cases e2 : y = x
      · subst e2
        simp only [if_true]
        intro c
        have := vlt z k hk
        have := hf k c
        omega
      · simp only [e2, if_false]
        exact h.ne z y hne k hk
set_option maxRecDepth 20000 in
set_option maxHeartbeats 4000000 in
theorem refTake_any {B : Nat} {W : World} {rb mb n : Nat} {D : DataW Value} {V : ByteArray → Value} {M : ByteArray → List Lay} (h : RLay B W mb n D V M) (hr : W.cell? ⟨rb, 1, none⟩ = some (.map (some mb))) (hBW : B ≤ W.heap.size) (x : ByteArray) (hx : x.size ≤ maxLen) (q : Int) (hq : 0 ≤ q) (hq' : q ≤ 1000000000)
    (hok : ∀ y ∈ M x, LayOK y) (hv : sumV (M x) ≤ 20000000000000) (hl : (M x).length ≤ 1000) (hn : n < 1000000) (hgl : TabG W) :
    Calls Tryz.prog 98 #[.pointer (some ⟨rb, 0, none⟩), .string x, .int .i64 q] W fun r w' => r = .returned (.tuple #[.int .i64 (tk (M x) q).2.1, .int .i64 (tk (M x) q).2.2]) ∧
      ∃ nv, RLay B w' mb (n + 1) (D.put (keyB x) (.held nv)) (fun z => if z = x then nv else V z) (fun z => if z = x then (tk (M x) q).1 else M z) ∧ (∀ k, nv.ownBlock = some k → W.heap.size ≤ k) ∧ W.grownBy w' (some mb) := by
  obtain ⟨i0, hi, hz0, hz1, hz2⟩ := info_parts Tryz.infoLay
  have h1 := h.look x hx
  have h2 := h.lay x
  have HR : Hid (RLay B W mb n D V M) := h
  obtain ⟨ys, hys⟩ : ∃ ys, ys = M x := ⟨_, rfl⟩
  rw [← hys] at h2 hok hv hl
  rw [← hys]
  have HOK : Hid (∀ y ∈ ys, LayOK y) := hok
  have HG : Hid (TabG W) := hgl
  have HTK : Hid (tkR ([], 0, q) ys = tk ys q) := by
    show _ = _
    have := tkR_is ys [] 0 q hok hq
    rw [List.nil_append, Int.zero_add] at this
    exact this
  obtain ⟨ad2, n2, cp2, hv2⟩ := h2.slice
  rw [hv2] at h1 h2
  have hn2 := h2.nilOf
  subst hn2
  have H2 : Hid (LayAt W (.slice ad2 ys.length cp2) ys) := h2
  clear hys hv2 h hgl h2
  go_enter Tryz.func98, Tryz.ntmps98
  go_wp2_with fail
  clear h1
  go_loopw [2, 6, 8, 21] (fun nv vv lv i wr => ∃ k : Nat, k ≤ ys.length ∧ i = .int .i64 k ∧ nv = .int .i64 (tkR ([], 0, q) (ys.take k)).2.2 ∧ vv = .int .i64 (tkR ([], 0, q) (ys.take k)).2.1 ∧ Hid (LayAt wr lv (tkR ([], 0, q) (ys.take k)).1) ∧ Hid (∀ j, lv.ownBlock = some j → W.heap.size ≤ j) ∧ Below W.heap.size W wr) (fun _ _ _ i _ => ys.length - (intOf i).toNat)
  case atStart => exact ⟨0, Nat.zero_le _, rfl, rfl, rfl, LayAt.nil _, fun j hj => (by cases hj), Below.refl _ _⟩
  case round =>
    obtain ⟨k, hk, rfl, rfl, rfl, HL, HF, hb⟩ := hrel
    by_cases hlt : k < ys.length
    · rcases H2.out.form with ⟨e, e2⟩ | ⟨g, o, cap, e, hg, hc1, hc2⟩
      · rw [e2] at hlt; exact absurd hlt (Nat.not_lt_zero _)
      · simp only [Value.slice.injEq] at e
        obtain ⟨rfl, _, rfl⟩ := e
        have hc := fun j hj => ((H2.out.below hb).cell k j hlt hj).1
        have c0 := hc 0 (by omega)
        have c1 := hc 1 (by omega)
        have c2 := hc 2 (by omega)
        have st := sum_take HOK.out k
        have st1 := sum_take HOK.out (k + 1)
        have sn := sum_snoc ys k hlt
        rw [sn.1, sn.2] at st1
        have tt := tkR_took HOK.out hq k
        have hstep := tkR_snoc ([], 0, q) ys k hlt
        have ok := HOK.out ys[k] (List.getElem_mem hlt)
        clear sn hc
        obtain ⟨T, hT⟩ : ∃ T, T = tkR ([], 0, q) (ys.take k) := ⟨_, rfl⟩
        rw [← hT] at tt hstep HL
        rw [← hT]
        generalize ys[k] = y at c0 c1 c2 st1 ok hstep
        obtain ⟨id, qty, val⟩ := y
        obtain ⟨tl, tv, tm⟩ := T
        have HS : Hid (tkR ([], 0, q) (ys.take (k + 1)) = tkStep (tl, tv, tm) ⟨id, qty, val⟩) := hstep
        unfold LayOK at ok
        simp only [layC, List.getElem?_cons_zero, List.getElem?_cons_succ, Nat.add_zero] at c0 c1 c2 st1 ok
        have hmb : 0 ≤ tm ∧ tm ≤ q := by
          have f := tt.few
          have m := tt.many
          simp only at f m
          rcases Int.lt_or_le (sumQ (ys.take k)) q with a | a
          · have := (m a).2; omega
          · have := (f a).2; omega
        have htv : 0 ≤ tv ∧ tv ≤ 20000000000000 := by
          have a := tt.val
          have b := tt.pos
          have c := (sum_nonneg tt.ok).2
          simp only at a b c
          omega
        have htl : tl.length ≤ 1000 := by have := tt.len; simp only [List.length_take] at this; omega
        clear hT tt hstep
        simp only
        obtain ⟨W1, hW1⟩ : ∃ X, X = wr.alloc (.cells #[.int .i64 id, .int .i64 qty, .int .i64 val] 204) := ⟨_, rfl⟩
        have b1 : Below wr.heap.size wr W1 := by rw [hW1]; exact (Below.refl _ _).alloc (Nat.le_refl _) _
        have hB1 : Below W.heap.size W W1 := hb.trans (b1.mono hb.size)
        have y0 : W1.cell? ⟨wr.heap.size, 0, none⟩ = some (.int .i64 id) := by rw [hW1]; simp
        have y1 : W1.cell? ⟨wr.heap.size, 1, none⟩ = some (.int .i64 qty) := by rw [hW1]; simp
        have y2 : W1.cell? ⟨wr.heap.size, 2, none⟩ = some (.int .i64 val) := by rw [hW1]; simp
        have hs1 : wr.heap.size < W1.heap.size := by rw [hW1]; simp
        have HW1 : Hid (W1 = _) := hW1
        have hvl : val ≤ 20000000000000 := by omega
        clear hW1
        by_cases hc : tm < qty
        · have hpa := refPart_ok val tm qty W1 (HG.out.below hB1) ok.2.2 hvl hmb.1 (by omega) ok.1 ok.2.1
          have hsh := share_bd val tm qty ok.2.2 hmb.1 (by omega) ok.1
          obtain ⟨sv, hsv⟩ : ∃ v, v = shr val tm qty := ⟨_, rfl⟩
          rw [← hsv] at hpa hsh
          have HSV : Hid (tkStep (tl, tv, tm) ⟨id, qty, val⟩ = (tl ++ [⟨id, qty - tm, val - sv⟩], tv + sv, 0)) := by
            show _ = _
            unfold tkStep few
            simp only [hc, if_true, Int.sub_self]
            rw [hsv]; rfl
          clear hsv
          go_wp2_with fail
          rw [← HW1.out]
          refine hpa.mono ?_
          rintro e w2 ⟨rfl, b2⟩
          clear hpa
          have z0 := below_cell b2 y0
          have z1 := below_cell b2 y1
          have z2 := below_cell b2 y2
          have hB2 : Below W.heap.size W w2 := hB1.trans (b2.mono hB1.size)
          have HL2 : Hid (LayAt w2 u8 tl) := (HL.out.below b1).below b2
          clear y0 y1 y2 c0 c1 c2 HW1
          go_wp2_with (first
            | (at_builtin; refine wpList_append_lay _ rfl _ _ 194 rfl i0 layZ Tryz.underlying194 hi hz0 hz1 hz2 rfl u8 tl rfl (HL2.out.below ((Below.refl _ _).alloc (Nat.le_refl _) _)) (by omega) ⟨w2.heap.size, 0, none⟩ 1 ⟨id, qty - tm, val - sv⟩ rfl (cells_of_list rfl) ?_)
            | go_in)
          intro v' w3 hl3 hgr hfr
          have hB3 : Below W.heap.size W (w2.alloc (.cells (layC ⟨id, qty - tm, val - sv⟩).toArray 204)) := hB2.alloc hB2.size _
          have hs2 : W.heap.size ≤ w2.heap.size := hB2.size
          have hB4 : Below W.heap.size W w3 := hB3.grown hgr hB3.size (fun j hj => HF.out j hj)
          obtain ⟨ad3, n3, cp3, hv3⟩ := hl3.slice
          subst hv3
          have HL3 : Hid (LayAt w3 (.slice ad3 n3 cp3) (tl ++ [⟨id, qty - tm, val - sv⟩])) := hl3
          have HF3 : Hid (∀ j, (Value.slice ad3 n3 cp3).ownBlock = some j → W.heap.size ≤ j) := fun j hj => by
            rcases hfr j hj with a | a
            · exact HF.out j a
            · have : w2.heap.size ≤ j := by simp at a; omega
              omega
          clear hl3 hgr hfr z0 z1 z2
          go_wp2
          go_roundw
          case rel =>
            refine ⟨k + 1, by omega, by go_num, ?_, ?_, ?_, HF3, hB4⟩
            · rw [HS.out, HSV.out]
            · rw [HS.out, HSV.out]
            · show LayAt _ _ _
              rw [HS.out, HSV.out]
              exact HL3.out
          case measure => simp [intOf]; omega
        · have hpa := refPart_ok val qty qty W1 (HG.out.below hB1) ok.2.2 hvl (by omega) (Int.le_refl _) ok.1 ok.2.1
          have hsv : shr val qty qty = val := Int.mul_ediv_cancel _ (by omega)
          rw [hsv] at hpa
          have HSV : Hid (tkStep (tl, tv, tm) ⟨id, qty, val⟩ = (tl, tv + val, tm - qty)) := by
            show _ = _
            unfold tkStep few
            have hd : val * qty / qty = val := hsv
            simp only [hc, if_false, Int.lt_irrefl, hd]
          clear hsv
          go_wp2_with fail
          rw [← HW1.out]
          refine hpa.mono ?_
          rintro e w2 ⟨rfl, b2⟩
          clear hpa
          have z0 := below_cell b2 y0
          have z1 := below_cell b2 y1
          have z2 := below_cell b2 y2
          have hB2 : Below W.heap.size W w2 := hB1.trans (b2.mono hB1.size)
          have HL2 : Hid (LayAt w2 u8 tl) := (HL.out.below b1).below b2
          clear y0 y1 y2 c0 c1 c2 HW1
          go_wp2
          go_roundw
          case rel =>
            refine ⟨k + 1, by omega, by go_num, ?_, ?_, ?_, HF, hB2⟩
            · rw [HS.out, HSV.out]
            · rw [HS.out, HSV.out]
            · show LayAt _ _ _
              rw [HS.out, HSV.out]
              exact HL2.out
          case measure => simp [intOf]; omega
    · obtain rfl : k = ys.length := by omega
      rw [List.take_length, HTK.out] at HL
      rw [List.take_length, HTK.out]
      obtain ⟨ad3, n3, cp3, hv3⟩ := HL.out.slice
      subst hv3
      have hrw : wr.cell? ⟨rb, 1, none⟩ = some (.map (some mb)) := (hb.cell (p := ⟨rb, 1, none⟩) (World.block_lt_of_cell? _ _ hr)).trans hr
      have HM : Hid (wr.ownsMap Tryz.prog 9 heldE mb n D) := map_same HR.out.map (hb.block _ HR.out.map.lt)
      have hnm : n < maxLen := by unfold maxLen; omega
      go_wp2_with (first
        | (at_mapUpdate; refine wpList_mapUpdate_own _ rfl _ _ _ 136 rfl 9 194 law_strT Tryz.underlying136 heldE mb n D rfl HM.out hnm _ _ (keyB x) rfl rfl (key_str x hx) (.held (.slice ad3 n3 cp3)) [] rfl ?_)
        | go_in)
      intro w3 m3 g3
      have HRP := HR.out.put hBW hb x _ _ HL.out HF.out m3 g3
      have hgw : W.grownBy w3 (some mb) := ⟨g3.os.trans hb.os, g3.tape.trans hb.tape, g3.output.trans hb.output, Nat.le_trans hb.size g3.size, fun j hj hne => (g3.block j (Nat.lt_of_lt_of_le hj hb.size) hne).trans (hb.block j hj)⟩
      have HFIN : Hid _ := And.intro HRP (And.intro HF.out hgw)
      clear HRP hgw m3 g3 hrw
      go_wp2
      go_ret2
      exact ⟨rfl, _, HFIN.out.1, HFIN.out.2.1, HFIN.out.2.2⟩
end Go.Proofs.YtcfgacdcgljbaaaGreatDoor
namespace Go.Proofs.YtcfgacdcgljbaaaGreatDoor
open Go.RowKit
section
variable {P : Program} {ops : Array Oper} {md : Region.Mode}
def plainOpF : Op → Bool
  | .lookup .. => true
  | o => plainOpE o
theorem plain_onlyF {ρ : Operand → Value} {o : Oper} {w w' : World} {n : Next} (hp : plainOpF o.op = true) (h : (execOp ρ o).run P w = .ok n w') : ∃ u, n = .value u := by
  cases hop : o.op
  case lookup t m k c =>
    have key : VOnly P (execOp ρ o) := by
      unfold execOp
      rw [hop]
      exact vonly_bind _ _ (fun _ => vonly_pure _)
    exact key w n w' h
  all_goals exact plain_onlyE (by rw [hop] at hp; rw [hop]; exact hp) h
theorem yieldsR_of_quietF {R : World → World → Prop} {C : World → Prop} {w : World} {o : Oper} {a : Act} {K : Act → Prop} (hC : ∀ w', R w w' → C w') (hp : plainOpF o.op = true) (h : wpQuiet P ops C K [o] a) : ∃ v, YieldsR R P ops w o v a ∧ K (a.put o.dst v) := by
  unfold wpQuiet at h
  split at h
  · rename_i hw
    obtain ⟨v, h1, h2⟩ := h
    refine ⟨v, .inl ⟨hw, fun n hn => ?_⟩, h2⟩
    have h3 := h1 n (hC n hn)
    unfold Oper.quietAt at h3
    cases hr : (execOp a.eval o).run P n with
    | ok m w' =>
      obtain ⟨u, rfl⟩ := plain_onlyF hp hr
      rw [hr] at h3
      obtain ⟨e1, e2⟩ := h3
      rw [e1, e2]
    | halt x w' => rw [hr] at h3; exact False.elim h3
  · rename_i hw
    exact ⟨undef, .inr ⟨by simpa using hw, rfl⟩, h⟩
def wpPre (P : Program) (ops : Array Oper) (Q : Act → World → Prop) : List (Bool × Nat) → Act → World → Prop
  | [], a, w => Q a w
  | (false, k) :: rest, a, w => ∃ o, ops[k]? = some o ∧ wpQuiet P ops (fun w' => ∃ n : AnyW, w' = n.v) (fun a' => wpPre P ops Q rest a' w) [o] a
  | (true, k) :: rest, a, w => ∃ o, ops[k]? = some o ∧ wpQuiet P ops (fun w' => ∃ n : Up w, w' = n.v) (fun a' => wpPre P ops Q rest a' w) [o] a
theorem pre_nil {Q : Act → World → Prop} {a : Act} {w : World} (h : Q a w) : wpPre P ops Q [] a w := h
theorem pre_p {l : List Oper} {Q : Act → World → Prop} {k : Nat} {rest : List (Bool × Nat)} {a : Act} {w : World} {o : Oper} (ho : nth l k = some o)
    (h : wpQuiet P l.toArray (fun w' => ∃ n : AnyW, w' = n.v) (fun a' => wpPre P l.toArray Q rest a' w) [o] a) : wpPre P l.toArray Q ((false, k) :: rest) a w := ⟨o, by rw [← ho, nth_is]; simp, h⟩
theorem pre_q {l : List Oper} {Q : Act → World → Prop} {k : Nat} {rest : List (Bool × Nat)} {a : Act} {w : World} {o : Oper} (ho : nth l k = some o)
    (h : wpQuiet P l.toArray (fun w' => ∃ n : Up w, w' = n.v) (fun a' => wpPre P l.toArray Q rest a' w) [o] a) : wpPre P l.toArray Q ((true, k) :: rest) a w := ⟨o, by rw [← ho, nth_is]; simp, h⟩
def preB (md : Region.Mode) (ops : Array Oper) (E : List Nat) : List (Bool × Nat) → Array Bool → Bool
  | [], _ => true
  | (false, k) :: rest, listed => (Region.ready md ops listed).contains k && Region.free md ops listed k && (match ops[k]? with | some o => plainOpF o.op | none => false) && preB md ops E rest (listed.setIfInBounds k true)
  | (true, k) :: rest, listed => (Region.ready md ops listed).contains k && Region.free md ops listed k && (match ops[k]? with | some o => plainOpF o.op | none => false) && descB md ops E listed k (descs md ops k) && preB md ops E rest (listed.setIfInBounds k true)
def listPre (listed : Array Bool) (ks : List (Bool × Nat)) : Array Bool := ks.foldl (fun b k => b.setIfInBounds k.2 true) listed
theorem wpAnyE_pre {E : List Nat} {Q : Act → World → Prop} (hs : Region.noSelect ops = true) (fuel : Nat) : ∀ (ord : List (Bool × Nat)) (listed : Array Bool) (a : Act) (w : World), preB md ops E ord listed = true →
      wpPre P ops (wpAnyE P md ops E Q fuel (listPre listed ord)) ord a w → wpAnyE P md ops E Q (ord.length + fuel) listed a w
  | [], listed, a, w, _, h => by rw [List.length_nil, Nat.zero_add]; exact h
  | (false, k) :: rest, listed, a, w, hB, ⟨o, ho, h⟩ => by
    simp only [preB, Bool.and_eq_true] at hB
    obtain ⟨⟨⟨hr, hf⟩, hp⟩, hB'⟩ := hB
    rw [ho] at hp
    obtain ⟨v, hy, hK⟩ := yieldsR_of_quietF (R := fun _ _ => True) (w := w) (fun w' _ => ⟨⟨w'⟩, rfl⟩) hp h
    have := wpAnyE_pre hs fuel rest (listed.setIfInBounds k true) _ w hB' hK
    rw [List.length_cons, show rest.length + 1 + fuel = rest.length + fuel + 1 by omega]
    exact wpAnyE_first (R := fun _ _ => True) (fun _ => trivial) (fun _ _ _ _ _ => trivial) ho (Region.noSelect_spec hs) (fun _ => True) (fun _ _ _ _ _ => ⟨fun _ _ _ => trivial, trivial⟩) (rest.length + fuel) listed a w (Region.free_spec ho hf) trivial (by simpa using hr) hy this
  | (true, k) :: rest, listed, a, w, hB, ⟨o, ho, h⟩ => by
    simp only [preB, Bool.and_eq_true] at hB
    obtain ⟨⟨⟨⟨hr, hf⟩, hp⟩, hd⟩, hB'⟩ := hB
    rw [ho] at hp
    obtain ⟨hg, h2⟩ := descB_spec hd
    obtain ⟨v, hy, hK⟩ := yieldsR_of_quietF (R := fun w w' => Below w.heap.size w w') (w := w) (fun w' hb => ⟨⟨w', hb⟩, rfl⟩) hp h
    have := wpAnyE_pre hs fuel rest (listed.setIfInBounds k true) _ w hB' hK
    rw [List.length_cons, show rest.length + 1 + fuel = rest.length + fuel + 1 by omega]
    exact wpAnyE_first (R := fun w w' => Below w.heap.size w w') (fun w => Below.refl _ w) (fun a b c h1 h2 => h1.trans (h2.mono h1.size)) ho (Region.noSelect_spec hs) (GoodD E (descs md ops k)) (fun listed j hg hj hji => goodD_step h2 listed j hg hj hji) (rest.length + fuel) listed a w (Region.free_spec ho hf) hg (by simpa using hr) hy this
/-- What makes memory, alone. -/
theorem eOp_make {E : List Nat} {K : Act → World → Prop} {l : List Oper} {k : Nat} {a : Act} {w : World} {o : Oper} (ho : nth l k = some o) (h : wpList P l.toArray (mixQ w K) [o] a w) : eOp P l.toArray E k K a w := by
  have ho' : l.toArray[k]? = some o := by rw [← ho, nth_is]; simp
  unfold eOp
  simp only [ho']
  unfold wpList at h
  split
  · rename_i hw
    simp only [hw, if_true] at h
    rcases h with h | ⟨_, _, _, hf⟩
    · exact wp_of_safe (fun a w hk => ⟨Or.inr hk.1, hk.2⟩) (safe_of_wp (K := K) h)
    · exact absurd hf.1 (by simp)
  · rename_i hw
    simp only [hw] at h
    exact h.2.2
/-- What turns memory, alone. -/
theorem eOp_turn {E : List Nat} {K : Act → World → Prop} {l : List Oper} {k : Nat} {a : Act} {w : World} {o : Oper} (ho : nth l k = some o) (hE : k ∈ E) (h : wpList P l.toArray (turnQ K) [o] a w) : eOp P l.toArray E k K a w := by
  have ho' : l.toArray[k]? = some o := by rw [← ho, nth_is]; simp
  unfold eOp
  simp only [ho']
  unfold wpList at h
  split
  · rename_i hw
    simp only [hw, if_true] at h
    rcases h with h | ⟨_, _, _, hf⟩
    · exact safe_of_turn hE (K := K) h
    · exact absurd hf.1 (by simp)
  · rename_i hw
    simp only [hw] at h
    exact h.2
theorem any_all {E : List Nat} {Q : Act → World → Prop} {fuel : Nat} {listed : Array Bool} {a : Act} {w : World} (ks : List Nat) (hr : (decide (Region.ready md ops listed = ks) && !ks.isEmpty) = true) (h : ∀ i ∈ ks, eOp P ops E i (wpAnyE P md ops E Q fuel (listed.setIfInBounds i true)) a w) : wpAnyE P md ops E Q (fuel + 1) listed a w := by
  simp only [Bool.and_eq_true, decide_eq_true_eq, Bool.not_eq_true'] at hr
  obtain ⟨hr, hn⟩ := hr
  refine ⟨fun h0 => ?_, fun i hi => h i (by rw [← hr]; exact hi)⟩
  rw [hr] at h0
  rw [h0] at hn
  cases hn
theorem any_nil {E : List Nat} {Q : Act → World → Prop} {listed : Array Bool} {a : Act} {w : World} (hr : decide (Region.ready md ops listed = []) = true) (h : Q a w) : wpAnyE P md ops E Q 0 listed a w := ⟨by simpa using hr, h⟩
/-- Reads first, then whatever is left. -/
theorem wp_region_pre {id : Nat} {Q : Exit → Act → World → Prop} {a : Act} {w : World} {l : List Oper} (ord : List (Bool × Nat)) (E : List Nat) (fuel : Nat) (hm : P.follows .mixedOrders = true)
    (hB : (Region.noSelect l.toArray && decide (ord.length + fuel = l.length) && preB .any l.toArray E ord (Array.replicate l.length false)) = true)
    (h : wpPre P l.toArray (wpAnyE P .any l.toArray E (fun a' w' => Q .normal a' w') fuel (listPre (Array.replicate l.length false) ord)) ord a w.drew) : (Code.region id l.toArray true).wp P Q a w := by
  simp only [Bool.and_eq_true, decide_eq_true_eq] at hB
  obtain ⟨⟨hs, hl⟩, hB⟩ := hB
  refine wp_region_any hm ?_
  have := wpAny_of_E (Q' := Q) (fun a w h => h) _ _ _ _ (wpAnyE_pre (md := .any) hs fuel ord _ a w.drew hB h)
  rw [hl] at this
  simpa using this
end
end Go.Proofs.YtcfgacdcgljbaaaGreatDoor
namespace Go.Proofs.YtcfgacdcgljbaaaGreatDoor
open Go.RowKit
section
variable {P : Program} {ops : Array Oper} {md : Region.Mode} {T : World → World → Prop}
/-- What an operation may do: those of E whatever, the others make memory alone. -/
def MayT (T : World → World → Prop) (E : List Nat) (i : Nat) (w w' : World) : Prop := i ∈ E ∨ T w w'
def eOpT (T : World → World → Prop) (P : Program) (ops : Array Oper) (E : List Nat) (i : Nat) (K : Act → World → Prop) (a : Act) (w : World) : Prop :=
  match ops[i]? with
  | none => K a w
  | some o => if Region.wanted o (yielded ops a.tmps) then o.wp P a w (fun a' w' => MayT T E i w w' ∧ K a' w') QF else K (a.put o.dst undef) w
def wpAnyG (T : World → World → Prop) (P : Program) (md : Region.Mode) (ops : Array Oper) (E : List Nat) (Q : Act → World → Prop) : Nat → Array Bool → Act → World → Prop
  | 0, listed, a, w => Region.ready md ops listed = [] ∧ Q a w
  | fuel + 1, listed, a, w => (Region.ready md ops listed = [] → Q a w) ∧ ∀ i ∈ Region.ready md ops listed, eOpT T P ops E i (wpAnyG T P md ops E Q fuel (listed.setIfInBounds i true)) a w
theorem wpOp_of_eOpG {E : List Nat} {i : Nat} {a : Act} {w : World} {K K' : Act → World → Prop} {Q' : Exit → Act → World → Prop} (h : ∀ a w, K a w → K' a w) (hh : eOpT T P ops E i K a w) : wpOp P ops Q' i K' a w := by
  unfold eOpT at hh
  unfold wpOp
  split
  · rename_i ho; simp only [ho] at hh; exact h _ _ hh
  · rename_i o ho
    simp only [ho] at hh
    split
    · rename_i hw; simp only [hw, if_true] at hh; exact .inl (wp_of_safe (fun a w hk => h _ _ hk.2) hh)
    · rename_i hw; simp only [hw] at hh; exact h _ _ hh
theorem wpAny_of_EG {E : List Nat} {Q : Act → World → Prop} {Q' : Exit → Act → World → Prop} (hQ : ∀ a w, Q a w → Q' .normal a w) : ∀ (fuel : Nat) (listed : Array Bool) (a : Act) (w : World),
    wpAnyG T P md ops E Q fuel listed a w → wpAny P md ops Q' fuel listed a w
  | 0, _, _, _, h => ⟨h.1, hQ _ _ h.2⟩
  | fuel + 1, _, _, _, h => ⟨fun h0 => hQ _ _ (h.1 h0), fun i hi => wpOp_of_eOpG (fun a' w' h' => wpAny_of_EG hQ fuel _ a' w' h') (h.2 i hi)⟩
theorem YieldsR.eOpG {R : World → World → Prop} {E : List Nat} (hT0 : ∀ w, T w w) (hR : ∀ w, R w w) {i : Nat} {o : Oper} {v : Value} {a : Act} {w : World} (hi : ops[i]? = some o) (hy : YieldsR R P ops w o v a) {K : Act → World → Prop} (h : K (a.put o.dst v) w) : eOpT T P ops E i K a w := by
  unfold Go.Proofs.YtcfgacdcgljbaaaGreatDoor.eOpT
  simp only [hi]
  rcases hy with ⟨hw, hv⟩ | ⟨hw, rfl⟩
  · simp only [hw, if_true]
    unfold Oper.wp
    rw [hv w (hR w)]
    exact ⟨Or.inr (hT0 _), h⟩
  · simp only [hw, Bool.false_eq_true, if_false]; exact h
theorem eOp_putG {R : World → World → Prop} (hR : ∀ w, R w w) (hT : ∀ a b c, R a b → R b c → R a c) {E : List Nat} {j : Nat} {oi oj : Oper} {v : Value} (hj : ops[j]? = some oj) (hap : oi.apart ops oj = true)
    (hsi : ∀ cs b, oi.op ≠ .select cs b) (hsj : ∀ cs b, oj.op ≠ .select cs b) (hm : ∀ w w', MayT T E j w w' → R w w') {K : Act → World → Prop} {a : Act} {w : World}
    (hy : YieldsR R P ops w oi v a) (h : eOpT T P ops E j K (a.put oi.dst v) w) :
    eOpT T P ops E j (fun a' w' => YieldsR R P ops w' oi v a' ∧ K (a'.put oi.dst v) w') a w := by
  obtain ⟨h1, h2, h3⟩ := Oper.apart_spec hap
  unfold eOpT at *
  simp only [hj] at *
  rw [wanted_put oj a oi.dst v h1] at h
  split
  · rename_i hw
    simp only [hw, if_true] at h
    exact wp_put (K := fun a' w' => MayT T E j w w' ∧ K a' w') (execOp_put oj hsj a oi.dst v h1) h2 (fun b w' u hb hk => ⟨hk.1, hy.keep hT (hm _ _ hk.1) hb hsi h3, hk.2⟩) h
  · rename_i hw
    simp only [hw] at h
    exact ⟨hy.keep hT (hR _) rfl hsi h3, by rw [← Act.put_comm a v undef h2]; exact h⟩
theorem eOp_monoG {E : List Nat} {i : Nat} {a : Act} {w : World} {K K' : Act → World → Prop} (h : ∀ a w, K a w → K' a w) (hh : eOpT T P ops E i K a w) : eOpT T P ops E i K' a w := by
  unfold eOpT at *
  split
  · rename_i ho; simp only [ho] at hh; exact h _ _ hh
  · rename_i o ho
    simp only [ho] at hh
    split
    · rename_i hw; simp only [hw, if_true] at hh; exact wp_of_safe (fun a w hk => ⟨hk.1, h _ _ hk.2⟩) hh
    · rename_i hw; simp only [hw] at hh; exact h _ _ hh
/-- What may come up now, and stays so whatever comes up ahead of it, may be taken first. -/
theorem wpAnyE_firstG {R : World → World → Prop} (hT0 : ∀ w, T w w) (hR : ∀ w, R w w) (hT : ∀ a b c, R a b → R b c → R a c) {E : List Nat} {Q : Act → World → Prop} {i : Nat} {oi : Oper} {v : Value} (hi : ops[i]? = some oi)
    (hsel : ∀ (j : Nat) (o : Oper) cs b, ops[j]? = some o → o.op ≠ .select cs b) (G : Array Bool → Prop)
    (hG : ∀ listed j, G listed → j ∈ Region.ready md ops listed → j ≠ i → (∀ w w', MayT T E j w w' → R w w') ∧ G (listed.setIfInBounds j true)) :
    ∀ (fuel : Nat) (listed : Array Bool) (a : Act) (w : World),
      (∀ j oj, ops[j]? = some oj → j ≠ i → listed.getD j true = false → (∀ e ∈ oj.after, Region.binds md e = true → e.on ≠ i) → oi.apart ops oj = true) → G listed →
      i ∈ Region.ready md ops listed → YieldsR R P ops w oi v a →
      wpAnyG T P md ops E Q fuel (listed.setIfInBounds i true) (a.put oi.dst v) w → wpAnyG T P md ops E Q (fuel + 1) listed a w := by
  intro fuel
  induction fuel with
  | zero =>
    intro listed a w _ _ hr hy H
    refine ⟨fun h => (by rw [h] at hr; cases hr), fun j hj => ?_⟩
    by_cases hji : j = i
    · subst hji; exact hy.eOpG hT0 hR hi H
    · have := ready_mono hj hji
      rw [H.1] at this
      cases this
  | succ fuel ih =>
    intro listed a w hfree hg hr hy H
    refine ⟨fun h => (by rw [h] at hr; cases hr), fun j hj => ?_⟩
    by_cases hji : j = i
    · subst hji; exact hy.eOpG hT0 hR hi H
    · have h1 := H.2 j (ready_mono hj hji)
      obtain ⟨hjun, oj, hoj, hall⟩ := mem_ready.1 hj
      have hnot : ∀ e ∈ oj.after, Region.binds md e = true → e.on ≠ i := fun e he hb heq => by
        have h1 := hall e he hb
        have h0 := (mem_ready.1 hr).1
        rw [heq] at h1
        rcases Nat.lt_or_ge i listed.size with h' | h'
        · simp [h'] at h0 h1; rw [h0] at h1; cases h1
        · simp [Array.getElem?_eq_none h'] at h1
      obtain ⟨hmay, hg'⟩ := hG listed j hg hj hji
      have h2 := eOp_putG hR hT hoj (hfree j oj hoj hji hjun hnot) (fun cs b => hsel i oi cs b hi) (fun cs b => hsel j oj cs b hoj) hmay hy h1
      have hfree' : ∀ k ok, ops[k]? = some ok → k ≠ i → (listed.setIfInBounds j true).getD k true = false →
          (∀ e ∈ ok.after, Region.binds md e = true → e.on ≠ i) → oi.apart ops ok = true := fun k ok hk hki hun hno => by
        refine hfree k ok hk hki ?_ hno
        by_cases hjk : j = k
        · subst hjk; exact hjun
        · rw [getD_set_ne true hjk] at hun; exact hun
      refine eOp_monoG (fun a' w' h3 => ih (listed.setIfInBounds j true) a' w' hfree' hg' (ready_mono hr (Ne.symm hji)) h3.1 ?_) h2
      rw [Array.setIfInBounds_comm _ _ hji]
      exact h3.2
theorem goodD_stepG {E ds : List Nat} {i : Nat} (h2 : ∀ k ∈ ds, k = i ∨ ∃ o, ops[k]? = some o ∧ ∃ e ∈ o.after, Region.binds md e = true ∧ e.on ∈ ds) (listed : Array Bool) (j : Nat) (hg : GoodD E ds listed) (hj : j ∈ Region.ready md ops listed) (hji : j ≠ i) :
    (∀ w w', MayT T E j w w' → T w w') ∧ GoodD E ds (listed.setIfInBounds j true) := by
  obtain ⟨hjun, oj, hoj, hall⟩ := mem_ready.1 hj
  have hnd : j ∉ ds := fun hd => by
    rcases h2 j hd with h | ⟨o, ho, e, he, hb, hon⟩
    · exact hji h
    · rw [hoj] at ho
      obtain rfl := Option.some.inj ho
      have h1 := hall e he hb
      have h0 := hg.1 _ hon
      rcases Nat.lt_or_ge e.on listed.size with h' | h'
      · simp [h'] at h0 h1; rw [h0] at h1; cases h1
      · simp [Array.getElem?_eq_none h'] at h1
  refine ⟨fun w w' hm => ?_, fun k hk => ?_, fun k hk => ?_⟩
  · rcases hm with hm | hm
    · rcases hg.2 j hm with h | h
      · exact absurd h hnd
      · rw [hjun] at h; cases h
    · exact hm
  · have hjk : j ≠ k := fun e => hnd (e ▸ hk)
    rw [getD_set_ne true hjk]; exact hg.1 k hk
  · rcases hg.2 k hk with h | h
    · exact Or.inl h
    · refine Or.inr ?_
      by_cases hjk : j = k
      · subst hjk; rw [hjun] at h; cases h
      · rw [getD_set_ne true hjk]; exact h
theorem safe_of_turnG {E : List Nat} {i : Nat} (hE : i ∈ E) {o : Oper} {a : Act} {w : World} {K : Act → World → Prop} (hh : o.wp P a w (turnQ K .normal) (turnQ K)) : o.wp P a w (fun a' w' => MayT T E i w w' ∧ K a' w') QF := by
  unfold Oper.wp at *
  generalize (execOp a.eval o).run P w = r at *
  cases r with
  | ok n w' =>
    cases n <;> simp only [Oper.upon] at hh ⊢ <;>
      first
        | exact ⟨Or.inl hE, hh.2⟩
        | exact Calls.mono hh (fun e w'' he => by
            cases e
            · exact ⟨Or.inl hE, he.2⟩
            · exact absurd he.1 (by simp)
            · obtain ⟨_, _, hf⟩ := he; exact absurd hf.1 (by simp))
        | exact Rows.mono hh (fun _ _ he => ⟨Or.inl hE, he.2⟩)
  | halt x w' =>
    cases x <;> simp only [Oper.upon] at hh ⊢
    exact absurd hh.1 (by simp)
def wpPreG (T : World → World → Prop) (P : Program) (ops : Array Oper) (Q : Act → World → Prop) : List (Bool × Nat) → Act → World → Prop
  | [], a, w => Q a w
  | (false, k) :: rest, a, w => ∃ o, ops[k]? = some o ∧ wpQuiet P ops (fun w' => ∃ n : AnyW, w' = n.v) (fun a' => wpPreG T P ops Q rest a' w) [o] a
  | (true, k) :: rest, a, w => ∃ o, ops[k]? = some o ∧ wpQuiet P ops (fun w' => ∃ n : UpK T w, w' = n.v) (fun a' => wpPreG T P ops Q rest a' w) [o] a
theorem preG_nil {Q : Act → World → Prop} {a : Act} {w : World} (h : Q a w) : wpPreG T P ops Q [] a w := h
theorem preG_p {l : List Oper} {Q : Act → World → Prop} {k : Nat} {rest : List (Bool × Nat)} {a : Act} {w : World} {o : Oper} (ho : nth l k = some o)
    (h : wpQuiet P l.toArray (fun w' => ∃ n : AnyW, w' = n.v) (fun a' => wpPreG T P l.toArray Q rest a' w) [o] a) : wpPreG T P l.toArray Q ((false, k) :: rest) a w := ⟨o, by rw [← ho, nth_is]; simp, h⟩
theorem preG_q {l : List Oper} {Q : Act → World → Prop} {k : Nat} {rest : List (Bool × Nat)} {a : Act} {w : World} {o : Oper} (ho : nth l k = some o)
    (h : wpQuiet P l.toArray (fun w' => ∃ n : UpK T w, w' = n.v) (fun a' => wpPreG T P l.toArray Q rest a' w) [o] a) : wpPreG T P l.toArray Q ((true, k) :: rest) a w := ⟨o, by rw [← ho, nth_is]; simp, h⟩
theorem wpAnyG_pre {E : List Nat} {Q : Act → World → Prop} (hT0 : ∀ w, T w w) (hTt : ∀ a b c, T a b → T b c → T a c) (hs : Region.noSelect ops = true) (fuel : Nat) : ∀ (ord : List (Bool × Nat)) (listed : Array Bool) (a : Act) (w : World), preB md ops E ord listed = true →
      wpPreG T P ops (wpAnyG T P md ops E Q fuel (listPre listed ord)) ord a w → wpAnyG T P md ops E Q (ord.length + fuel) listed a w
  | [], listed, a, w, _, h => by rw [List.length_nil, Nat.zero_add]; exact h
  | (false, k) :: rest, listed, a, w, hB, ⟨o, ho, h⟩ => by
    simp only [preB, Bool.and_eq_true] at hB
    obtain ⟨⟨⟨hr, hf⟩, hp⟩, hB'⟩ := hB
    rw [ho] at hp
    obtain ⟨v, hy, hK⟩ := yieldsR_of_quietF (R := fun _ _ => True) (w := w) (fun w' _ => ⟨⟨w'⟩, rfl⟩) hp h
    have := wpAnyG_pre hT0 hTt hs fuel rest (listed.setIfInBounds k true) _ w hB' hK
    rw [List.length_cons, show rest.length + 1 + fuel = rest.length + fuel + 1 by omega]
    exact wpAnyE_firstG (R := fun _ _ => True) hT0 (fun _ => trivial) (fun _ _ _ _ _ => trivial) ho (Region.noSelect_spec hs) (fun _ => True) (fun _ _ _ _ _ => ⟨fun _ _ _ => trivial, trivial⟩) (rest.length + fuel) listed a w (Region.free_spec ho hf) trivial (by simpa using hr) hy this
  | (true, k) :: rest, listed, a, w, hB, ⟨o, ho, h⟩ => by
    simp only [preB, Bool.and_eq_true] at hB
    obtain ⟨⟨⟨⟨hr, hf⟩, hp⟩, hd⟩, hB'⟩ := hB
    rw [ho] at hp
    obtain ⟨hg, h2⟩ := descB_spec hd
    obtain ⟨v, hy, hK⟩ := yieldsR_of_quietF (R := T) (w := w) (fun w' hb => ⟨⟨w', hb⟩, rfl⟩) hp h
    have := wpAnyG_pre hT0 hTt hs fuel rest (listed.setIfInBounds k true) _ w hB' hK
    rw [List.length_cons, show rest.length + 1 + fuel = rest.length + fuel + 1 by omega]
    exact wpAnyE_firstG (R := T) hT0 hT0 hTt ho (Region.noSelect_spec hs) (GoodD E (descs md ops k)) (fun listed j hg hj hji => goodD_stepG h2 listed j hg hj hji) (rest.length + fuel) listed a w (Region.free_spec ho hf) hg (by simpa using hr) hy this
/-- What keeps to the relation, alone. -/
theorem eOpG_keep {E : List Nat} {K : Act → World → Prop} {l : List Oper} {k : Nat} {a : Act} {w : World} {o : Oper} (ho : nth l k = some o) (h : wpList P l.toArray (keepQ T w K) [o] a w) : eOpT T P l.toArray E k K a w := by
  have ho' : l.toArray[k]? = some o := by rw [← ho, nth_is]; simp
  unfold eOpT
  simp only [ho']
  unfold wpList at h
  split
  · rename_i hw
    simp only [hw, if_true] at h
    rcases h with h | ⟨_, _, _, hf⟩
    · exact wp_of_safe (fun a w hk => ⟨Or.inr hk.1, hk.2⟩) (safe_of_keep (K := K) h)
    · exact absurd hf.1 (by simp)
  · rename_i hw
    simp only [hw] at h
    exact h.2.2
/-- What turns memory, alone. -/
theorem eOpG_turn {E : List Nat} {K : Act → World → Prop} {l : List Oper} {k : Nat} {a : Act} {w : World} {o : Oper} (ho : nth l k = some o) (hE : k ∈ E) (h : wpList P l.toArray (turnQ K) [o] a w) : eOpT T P l.toArray E k K a w := by
  have ho' : l.toArray[k]? = some o := by rw [← ho, nth_is]; simp
  unfold eOpT
  simp only [ho']
  unfold wpList at h
  split
  · rename_i hw
    simp only [hw, if_true] at h
    rcases h with h | ⟨_, _, _, hf⟩
    · exact safe_of_turnG hE (K := K) h
    · exact absurd hf.1 (by simp)
  · rename_i hw
    simp only [hw] at h
    exact h.2
theorem anyG_all {E : List Nat} {Q : Act → World → Prop} {fuel : Nat} {listed : Array Bool} {a : Act} {w : World} (ks : List Nat) (hr : (decide (Region.ready md ops listed = ks) && !ks.isEmpty) = true) (h : ∀ i ∈ ks, eOpT T P ops E i (wpAnyG T P md ops E Q fuel (listed.setIfInBounds i true)) a w) : wpAnyG T P md ops E Q (fuel + 1) listed a w := by
  simp only [Bool.and_eq_true, decide_eq_true_eq, Bool.not_eq_true'] at hr
  obtain ⟨hr, hn⟩ := hr
  refine ⟨fun h0 => ?_, fun i hi => h i (by rw [← hr]; exact hi)⟩
  rw [hr] at h0
  rw [h0] at hn
  cases hn
theorem anyG_nil {E : List Nat} {Q : Act → World → Prop} {listed : Array Bool} {a : Act} {w : World} (hr : decide (Region.ready md ops listed = []) = true) (h : Q a w) : wpAnyG T P md ops E Q 0 listed a w := ⟨by simpa using hr, h⟩
/-- Reads first, then whatever is left. -/
theorem wp_region_preG (T : World → World → Prop) {id : Nat} {Q : Exit → Act → World → Prop} {a : Act} {w : World} {l : List Oper} (ord : List (Bool × Nat)) (E : List Nat) (fuel : Nat) (hT0 : ∀ w, T w w) (hTt : ∀ a b c, T a b → T b c → T a c) (hm : P.follows .mixedOrders = true)
    (hB : (Region.noSelect l.toArray && decide (ord.length + fuel = l.length) && preB .any l.toArray E ord (Array.replicate l.length false)) = true)
    (h : wpPreG T P l.toArray (wpAnyG T P .any l.toArray E (fun a' w' => Q .normal a' w') fuel (listPre (Array.replicate l.length false) ord)) ord a w.drew) : (Code.region id l.toArray true).wp P Q a w := by
  simp only [Bool.and_eq_true, decide_eq_true_eq] at hB
  obtain ⟨⟨hs, hl⟩, hB⟩ := hB
  refine wp_region_any hm ?_
  have := wpAny_of_EG (Q' := Q) (fun a w h => h) _ _ _ _ (wpAnyG_pre (md := .any) hT0 hTt hs fuel ord _ a w.drew hB h)
  rw [hl] at this
  simpa using this
end
end Go.Proofs.YtcfgacdcgljbaaaGreatDoor
namespace Go.Proofs.YtcfgacdcgljbaaaGreatDoor
open Go.RowKit Go.Maps
theorem lay_of_own {w : World} {B : Nat} {v : Value} {ys : List Lay} (h : w.ownsRow B 204 3 v ys.length (ys.flatMap layC)) : LayAt w v ys := by
  rcases h.2 with ⟨hv, hn⟩ | ⟨g, cap, cur, hv, _, hg, hn, hm, hs, ht⟩
  · exact Or.inl ⟨hv, List.length_eq_zero_iff.1 hn⟩
  · refine Or.inr ⟨g, 0, cap, cur, hv, hg, hn, hm, by omega, ?_⟩
    rw [List.drop_zero]
    exact ht
theorem own_emptyL (w : World) : (w.alloc (.cells #[] 204)).ownsRow w.heap.size 204 3 (.slice (some ⟨w.heap.size, 0, none⟩) 0 0) 0 [] :=
  ⟨rfl, Or.inr ⟨w.heap.size, 0, #[], rfl, Nat.le_refl _, heap_alloc_new w _, Nat.le_refl _, Nat.zero_le _, rfl, rfl⟩⟩
theorem lay_ones (ys : List Lay) : ∀ u ∈ ys.flatMap layC, u.oneCell' = true := fun u hu => by
  obtain ⟨y, _, hy⟩ := List.mem_flatMap.1 hu
  exact layC_one y u hy
theorem own_low {w : World} {B b : Nat} {T : TypeId} {m n : Nat} {v : Value} {xs : List Value} (h : w.ownsRow b T m v n xs) (hB : B ≤ b) : w.ownsRow B T m v n xs := own_below h (Below.refl _ _) hB
theorem own_lenN {w : World} {B : Nat} {T : TypeId} {m n : Nat} {v : Value} {xs : List Value} (h : w.ownsRow B T m v n xs) : ∃ ad cap, v = .slice ad n cap := by
  rcases h.2 with ⟨rfl, rfl⟩ | ⟨g, cap, cur, rfl, _⟩
  · exact ⟨none, 0, rfl⟩
  · exact ⟨_, _, rfl⟩
theorem ne_blk {g g' n c : Nat} (h : g ≠ g') : (Value.slice (some ⟨g, 0, none⟩) n c).ownBlock ≠ some g' := fun e => h (by simpa [Value.ownBlock] using e)
theorem below_add {w w' : World} {g : Nat} (hb : Below w.heap.size w w') (hg : g < w.heap.size) (j : Nat) : w'.cell? ((⟨g, 0, none⟩ : Addr).add j) = w.cell? ((⟨g, 0, none⟩ : Addr).add j) := by
  rw [Addr.add_lit]; exact hb.cell (p := ⟨g, 0 + j, none⟩) hg
theorem grown_add {w w' : World} {g : Nat} {r : Option Nat} (hg : w.grownBy w' r) (hne : r ≠ some g) (hl : g < w.heap.size) (j : Nat) : w'.cell? ((⟨g, 0, none⟩ : Addr).add j) = w.cell? ((⟨g, 0, none⟩ : Addr).add j) := by
  rw [Addr.add_lit]; exact World.cell?_of_block (a := ⟨g, 0 + j, none⟩) (hg.block g hl (fun e => hne e.symm))
section
variable {P : Program} (w : World)
/-- append onto a slice that has no room: memory is made, none turned. -/
theorem wpList_append_made {ops : Array Oper} {rest : List Oper} {o : Oper} {a : Act} {Q : Exit → Act → World → Prop} (hgd : o.guard = none) (s x : Operand) (t : TypeId)
    (ho : o.op = .call { callee := .builtin .append, args := #[s, x], argTypes := #[t, t] })
    (base : Nat) (e : TypeId) (i : TypeInfo) (z : Value) (size bytes : Nat) (ht : P.underlying t = some (.slice e)) (hi : P.info? e = some i) (hz : i.zero = some z)
    (hsize : i.size = size) (hby : i.bytes = bytes) (hzs : z.cells.size = size) (hsz : 0 < size)
    (g : Nat) (hs : a.eval s = .slice (some ⟨g, 0, none⟩) 0 0) (hown : w.ownsRow base e size (.slice (some ⟨g, 0, none⟩) 0 0) 0 [])
    (ad : Addr) (m c : Nat) (news : List Value) (hx : a.eval x = .slice (some ad) m c) (hl : news.length = m * size) (hnews : ∀ j u, news[j]? = some u → w.cell? (ad.add j) = some u) (h1 : ∀ u ∈ news, u.oneCell' = true)
    (h63 : m ≤ maxLen) (hbytes : m * bytes ≤ 140737488355328) (hbase : base ≤ w.heap.size) (hm : 0 < m)
    (h : ∀ v' w', w'.ownsRow base e size v' m news → Below w.heap.size w w' → (∀ k, v'.ownBlock = some k → w.heap.size ≤ k) → wpList P ops Q rest (a.put o.dst v') w') : wpList P ops Q (o :: rest) a w :=
  wpList_plain hgd fun _ hK => by
    obtain ⟨v', w', hr, h2, h3, h4⟩ := run_append_own (P := P) w base t o.type e i z size bytes ht hi hz hsize hby hzs hsz _ 0 [] hown ad m c news hl hnews h1 (by omega) (by rw [Nat.zero_add]; exact hbytes) hbase
    have hbl : Below w.heap.size w w' ∧ ∀ k, v'.ownBlock = some k → w.heap.size ≤ k := by
      subst hsize
      subst hby
      have hsmall : m ≤ 9223372036854775807 := by simp only [maxLen] at h63; omega
      have holds : ∀ j u, ([] : List Value)[j]? = some u → w.cell? ((⟨g, 0, none⟩ : Addr).add j) = some u := fun j u hj => by simp at hj
      have hr2 := run_append_grow (P := P) w t o.type e i z ht hi hz ⟨g, 0, none⟩ 0 0 [] (by simp) holds ad m c news hl hnews (by omega) (by omega) (growslice_fits (by omega) (by rw [Nat.zero_add]; exact hbytes))
      rw [hr2] at hr
      cases hr
      refine ⟨?_, fun k hk => ?_⟩
      · exact (below_drew w).alloc (Nat.le_refl _) _
      · simp [Value.ownBlock] at hk
        omega
    unfold Oper.wp execOp
    simp only [ho, resolve, invoke, builtin, Sem.run_bind, Sem.run_pure, Result.andThen_ok, List.map_toArray, List.map_cons, List.map_nil, hs, hx, hr]
    exact hK _ _ (h v' w' (by simpa using h2) hbl.1 hbl.2)
end
set_option maxRecDepth 20000 in
set_option maxHeartbeats 4000000 in
theorem refPut_any {B : Nat} {W : World} {rb eb mb n : Nat} {D : DataW Value} {V : ByteArray → Value} {M : ByteArray → List Lay} (h : RLay B W mb n D V M) (hr : W.cell? ⟨rb, 1, none⟩ = some (.map (some mb))) (hBW : B ≤ W.heap.size) (e : Ev) (he : EvAt W eb e) (hx : e.item.size ≤ maxLen) (q v : Int)
    (hl : (M e.item).length ≤ 1000) (hn : n < 1000000) :
    Calls Tryz.prog 97 #[.int .i64 q, .int .i64 v, .pointer (some ⟨rb, 0, none⟩), .pointer (some ⟨eb, 0, none⟩)] W fun r w' => r = .returned (.tuple #[]) ∧
      ∃ nv, RLay B w' mb (n + 1) (D.put (keyB e.item) (.held nv)) (fun z => if z = e.item then nv else V z) (fun z => if z = e.item then M e.item ++ [⟨e.id, q, v⟩] else M z) ∧ (∀ k, nv.ownBlock = some k → W.heap.size ≤ k) ∧ W.grownBy w' (some mb) := by
  obtain ⟨i0, hi, hz0, hz1, hz2⟩ := info_parts Tryz.infoLay
  obtain ⟨id, item, kind, qty, price, ofI, day⟩ := e
  simp only at hx hl ⊢
  obtain ⟨W1, hW1⟩ : ∃ X, X = W.drew := ⟨_, rfl⟩
  have b1 : Below W.heap.size W W1 := by rw [hW1]; exact below_drew _
  have hH1 := h.below b1
  obtain ⟨ys, hys⟩ : ∃ ys, ys = M item := ⟨_, rfl⟩
  have h2 := hH1.lay item
  rw [← hys] at h2 hl
  rw [← hys]
  obtain ⟨ad2, n2, cp2, hv2⟩ := h2.slice
  have HLT : Hid (∀ k, (Value.slice ad2 ys.length cp2).ownBlock = some k → k < W.heap.size) := fun k hk => (h.lay item).lt (by rw [hv2]; rw [hv2] at h2; have := h2.nilOf; rw [this]; exact hk)
  have hlk : ∀ m : UpK (Below W.heap.size) W1, (Instr.lookup 136 (.map (some mb)) (.string item) false).run Tryz.prog m.v = .ok (.slice ad2 n2 cp2) m.v := fun m => by rw [← hv2]; exact (h.below (b1.trans m.h)).look item hx
  rw [hv2] at h2
  have hn2 := h2.nilOf
  subst hn2
  have HR : Hid (RLay B W mb n D V M) := h
  have H2 : Hid (LayAt W1 (.slice ad2 ys.length cp2) ys) := h2
  have p0 : ∀ m : UpK (Below W.heap.size) W1, m.v.cell? ⟨rb, 1, none⟩ = some (.map (some mb)) := fun m => below_cell (b1.trans m.h) hr
  have p1 : ∀ m : UpK (Below W.heap.size) W1, m.v.cell? ⟨eb, 1, none⟩ = some (.string item) := fun m => below_cell (b1.trans m.h) he.c1
  have p2 : ∀ m : UpK (Below W.heap.size) W1, m.v.cell? ⟨eb, 0, none⟩ = some (.int .i64 id) := fun m => below_cell (b1.trans m.h) he.c0
  have HB1 : Hid (Below W.heap.size W W1) := b1
  have hsW1 : W.heap.size ≤ W1.heap.size := b1.size
  have HBW1 : Hid (Below W.heap.size W1 W1) := Below.refl _ _
  have hU : ∀ w : World, Nonempty (UpK (Below W.heap.size) w) := fun w => ⟨⟨w, Below.refl _ _⟩⟩
  have hA := anyW_ne
  clear h h2 hys hv2 hr he hH1 b1
  go_enter Tryz.func97, Tryz.ntmps97
  go_wp2_with fail
  refine wp_region_preG (Below W.heap.size) [(false, 0), (true, 1), (false, 2), (true, 3), (false, 5), (true, 6), (false, 7), (true, 8), (true, 9), (false, 11), (true, 12), (false, 13), (false, 14), (false, 15)] [18] 5 (fun w => Below.refl _ _) (fun a b c h1 h2 => h1.trans h2) (by kernel_rfl) (by kernel_rfl) ?_
  rw [← hW1]
  clear hW1
  repeat (first | refine preG_p rfl ?_ | refine preG_q rfl ?_); go_big_quiet_step (fail); refine wpQuiet_nil ?_
  refine preG_nil ?_
  clear p0 p1 p2 hlk
  rcases H2.out.form with ⟨e, e2⟩ | ⟨g, o, cap, e, hg, hc1, hc2⟩
  · simp only [Value.slice.injEq] at e
    obtain ⟨rfl, _, rfl⟩ := e
    subst e2
    simp only [List.length_nil]
    refine anyG_all [4, 16] (by kernel_rfl) ?_
    intro i hi2
    have hi3 : i = 4 ∨ i = 16 := by simpa using hi2
    clear hi2
    rcases hi3 with rfl | rfl
    · refine eOpG_keep rfl ?_
      go_wp2_with fail
      obtain ⟨w2, hw2⟩ : ∃ X, X = W1.alloc (.cells #[] 204) := ⟨_, rfl⟩
      have bw2 : Below W1.heap.size W1 w2 := by rw [hw2]; exact (Below.refl _ _).alloc (Nat.le_refl _) _
      have nw2 : Below W.heap.size W1 w2 := bw2.mono hsW1
      have hsw2 : W.heap.size ≤ w2.heap.size := Nat.le_trans hsW1 bw2.size
      have HE : Hid (w2.ownsRow W.heap.size 204 3 (.slice (some ⟨W1.heap.size, 0, none⟩) 0 0) 0 []) := by show World.ownsRow _ _ _ _ _ _ _; rw [hw2]; exact own_low (own_emptyL W1) hsW1
      have HBw2 : Hid (Below W.heap.size W1 w2) := HBW1.out.trans nw2
      have hyw2 : W1.heap.size < w2.heap.size := by rw [hw2]; simp
      refine ⟨rfl, by rw [← hw2]; exact nw2, ?_⟩
      rw [← hw2]
      clear hw2
      refine anyG_all [10, 16] (by kernel_rfl) ?_
      intro i hi2
      have hi3 : i = 10 ∨ i = 16 := by simpa using hi2
      clear hi2
      rcases hi3 with rfl | rfl
      · refine eOpG_keep rfl ?_
        go_wp2_with fail
        refine ⟨rfl, Below.refl _ _, ?_⟩
        refine anyG_all [16] (by kernel_rfl) ?_
        intro i hi2
        obtain rfl : i = 16 := by simpa using hi2
        clear hi2
        refine eOpG_keep rfl ?_
        go_wp2_with fail
        obtain ⟨w4, hw4⟩ : ∃ X, X = w2.alloc (.cells #[.int .i64 id, .int .i64 q, .int .i64 v] 204) := ⟨_, rfl⟩
        have bw4 : Below w2.heap.size w2 w4 := by rw [hw4]; exact (Below.refl _ _).alloc (Nat.le_refl _) _
        have nw4 : Below W.heap.size w2 w4 := bw4.mono hsw2
        have hsw4 : W.heap.size ≤ w4.heap.size := Nat.le_trans hsw2 bw4.size
        have HY : Hid (∀ j u, (layC ⟨id, q, v⟩)[j]? = some u → w4.cell? ((⟨w2.heap.size, 0, none⟩ : Addr).add j) = some u) := by show ∀ j u, _ → _; rw [hw4]; exact cells_of_list rfl
        have HBw4 : Hid (Below W.heap.size W1 w4) := HBw2.out.trans nw4
        have hyw4 : w2.heap.size < w4.heap.size := by rw [hw4]; simp
        refine ⟨rfl, by rw [← hw4]; exact nw4, ?_⟩
        rw [← hw4]
        clear hw4
        have HE2 : Hid (w4.ownsRow W.heap.size 204 3 (.slice (some ⟨W1.heap.size, 0, none⟩) 0 0) 0 []) := own_below HE.out bw4 (Nat.le_refl _)
        clear HE
        have HE := HE2
        clear HE2
        refine anyG_all [17] (by kernel_rfl) ?_
        intro i hi17
        obtain rfl : i = 17 := by simpa using hi17
        clear hi17
        refine eOpG_keep rfl ?_
        refine wpList_append_own _ rfl _ _ 194 rfl W.heap.size 204 i0 layZ 3 24 Tryz.underlying194 hi hz0 hz1 hz2 rfl (by decide) _ _ _ rfl HE.out ⟨w2.heap.size, 0, none⟩ 1 1 (layC ⟨id, q, v⟩) rfl rfl HY.out (layC_one _) (by unfold maxLen; omega) (by omega) hsw4 ?_
        intro nv w8 hown8 hgr8 _
        have n8 : Below W.heap.size w4 w8 := (Below.refl _ _).grown hgr8 hsw4 (fun j hj => (HE.out.lt j hj).1)
        have HB8 : Hid (Below W.heap.size W1 w8) := HBw4.out.trans n8
        have hown8' : w8.ownsRow W.heap.size 204 3 nv [(⟨id, q, v⟩ : Lay)].length ([(⟨id, q, v⟩ : Lay)].flatMap layC) := by
          simpa using hown8
        have HL8 : Hid (LayAt w8 nv [⟨id, q, v⟩]) := lay_of_own hown8'
        have HF8 : Hid (∀ k, nv.ownBlock = some k → W.heap.size ≤ k) := fun k hk => (hown8'.lt k hk).1
        obtain ⟨a8, c8, hv8⟩ := own_lenN hown8'
        have hv9 : nv = .slice a8 1 c8 := hv8
        clear hv8
        subst hv9
        clear hown8 hgr8 hown8'
        go_wp2_with fail
        refine ⟨rfl, n8, ?_⟩
        refine anyG_all [18] (by kernel_rfl) ?_
        intro i hi18
        obtain rfl : i = 18 := by simpa using hi18
        clear hi18
        refine eOpG_turn rfl (by decide) ?_
        have HBW : Hid (Below W.heap.size W w8) := HB1.out.trans HB8.out
        have HM8 : Hid (w8.ownsMap Tryz.prog 9 heldE mb n D) := map_same HR.out.map (HBW.out.block _ HR.out.map.lt)
        have hnm : n < maxLen := by unfold maxLen; omega
        refine wpList_mapUpdate_own _ rfl _ _ _ 136 rfl 9 194 law_strT Tryz.underlying136 heldE mb n D rfl HM8.out hnm _ _ (keyB item) rfl rfl (key_str item hx) (.held (.slice a8 1 c8)) [] rfl ?_
        intro w9 m9 g9
        have HRP := HR.out.put hBW HBW.out item _ _ HL8.out HF8.out m9 g9
        have hgw : W.grownBy w9 (some mb) := ⟨g9.os.trans HBW.out.os, g9.tape.trans HBW.out.tape, g9.output.trans HBW.out.output, Nat.le_trans HBW.out.size g9.size, fun j hj hne => (g9.block j (Nat.lt_of_lt_of_le hj HBW.out.size) hne).trans (HBW.out.block j hj)⟩
        have HFIN : Hid (_ ∧ _ ∧ _) := And.intro HRP (And.intro HF8.out hgw)
        clear HRP hgw m9 g9
        go_wp2_with fail
        refine ⟨rfl, ?_⟩
        refine anyG_nil (by kernel_rfl) ?_
        go_wp2
        go_end0
        exact ⟨rfl, _, HFIN.out.1, HFIN.out.2.1, HFIN.out.2.2⟩
      · refine eOpG_keep rfl ?_
        go_wp2_with fail
        obtain ⟨w4, hw4⟩ : ∃ X, X = w2.alloc (.cells #[.int .i64 id, .int .i64 q, .int .i64 v] 204) := ⟨_, rfl⟩
        have bw4 : Below w2.heap.size w2 w4 := by rw [hw4]; exact (Below.refl _ _).alloc (Nat.le_refl _) _
        have nw4 : Below W.heap.size w2 w4 := bw4.mono hsw2
        have hsw4 : W.heap.size ≤ w4.heap.size := Nat.le_trans hsw2 bw4.size
        have HY : Hid (∀ j u, (layC ⟨id, q, v⟩)[j]? = some u → w4.cell? ((⟨w2.heap.size, 0, none⟩ : Addr).add j) = some u) := by show ∀ j u, _ → _; rw [hw4]; exact cells_of_list rfl
        have HBw4 : Hid (Below W.heap.size W1 w4) := HBw2.out.trans nw4
        have hyw4 : w2.heap.size < w4.heap.size := by rw [hw4]; simp
        refine ⟨rfl, by rw [← hw4]; exact nw4, ?_⟩
        rw [← hw4]
        clear hw4
        have HE2 : Hid (w4.ownsRow W.heap.size 204 3 (.slice (some ⟨W1.heap.size, 0, none⟩) 0 0) 0 []) := own_below HE.out bw4 (Nat.le_refl _)
        clear HE
        have HE := HE2
        clear HE2
        refine anyG_all [10] (by kernel_rfl) ?_
        intro i hi2
        obtain rfl : i = 10 := by simpa using hi2
        clear hi2
        refine eOpG_keep rfl ?_
        go_wp2_with fail
        refine ⟨rfl, Below.refl _ _, ?_⟩
        refine anyG_all [17] (by kernel_rfl) ?_
        intro i hi17
        obtain rfl : i = 17 := by simpa using hi17
        clear hi17
        refine eOpG_keep rfl ?_
        refine wpList_append_own _ rfl _ _ 194 rfl W.heap.size 204 i0 layZ 3 24 Tryz.underlying194 hi hz0 hz1 hz2 rfl (by decide) _ _ _ rfl HE.out ⟨w2.heap.size, 0, none⟩ 1 1 (layC ⟨id, q, v⟩) rfl rfl HY.out (layC_one _) (by unfold maxLen; omega) (by omega) hsw4 ?_
        intro nv w8 hown8 hgr8 _
        have n8 : Below W.heap.size w4 w8 := (Below.refl _ _).grown hgr8 hsw4 (fun j hj => (HE.out.lt j hj).1)
        have HB8 : Hid (Below W.heap.size W1 w8) := HBw4.out.trans n8
        have hown8' : w8.ownsRow W.heap.size 204 3 nv [(⟨id, q, v⟩ : Lay)].length ([(⟨id, q, v⟩ : Lay)].flatMap layC) := by
          simpa using hown8
        have HL8 : Hid (LayAt w8 nv [⟨id, q, v⟩]) := lay_of_own hown8'
        have HF8 : Hid (∀ k, nv.ownBlock = some k → W.heap.size ≤ k) := fun k hk => (hown8'.lt k hk).1
        obtain ⟨a8, c8, hv8⟩ := own_lenN hown8'
        have hv9 : nv = .slice a8 1 c8 := hv8
        clear hv8
        subst hv9
        clear hown8 hgr8 hown8'
        go_wp2_with fail
        refine ⟨rfl, n8, ?_⟩
        refine anyG_all [18] (by kernel_rfl) ?_
        intro i hi18
        obtain rfl : i = 18 := by simpa using hi18
        clear hi18
        refine eOpG_turn rfl (by decide) ?_
        have HBW : Hid (Below W.heap.size W w8) := HB1.out.trans HB8.out
        have HM8 : Hid (w8.ownsMap Tryz.prog 9 heldE mb n D) := map_same HR.out.map (HBW.out.block _ HR.out.map.lt)
        have hnm : n < maxLen := by unfold maxLen; omega
        refine wpList_mapUpdate_own _ rfl _ _ _ 136 rfl 9 194 law_strT Tryz.underlying136 heldE mb n D rfl HM8.out hnm _ _ (keyB item) rfl rfl (key_str item hx) (.held (.slice a8 1 c8)) [] rfl ?_
        intro w9 m9 g9
        have HRP := HR.out.put hBW HBW.out item _ _ HL8.out HF8.out m9 g9
        have hgw : W.grownBy w9 (some mb) := ⟨g9.os.trans HBW.out.os, g9.tape.trans HBW.out.tape, g9.output.trans HBW.out.output, Nat.le_trans HBW.out.size g9.size, fun j hj hne => (g9.block j (Nat.lt_of_lt_of_le hj HBW.out.size) hne).trans (HBW.out.block j hj)⟩
        have HFIN : Hid (_ ∧ _ ∧ _) := And.intro HRP (And.intro HF8.out hgw)
        clear HRP hgw m9 g9
        go_wp2_with fail
        refine ⟨rfl, ?_⟩
        refine anyG_nil (by kernel_rfl) ?_
        go_wp2
        go_end0
        exact ⟨rfl, _, HFIN.out.1, HFIN.out.2.1, HFIN.out.2.2⟩
    · refine eOpG_keep rfl ?_
      go_wp2_with fail
      obtain ⟨w2, hw2⟩ : ∃ X, X = W1.alloc (.cells #[.int .i64 id, .int .i64 q, .int .i64 v] 204) := ⟨_, rfl⟩
      have bw2 : Below W1.heap.size W1 w2 := by rw [hw2]; exact (Below.refl _ _).alloc (Nat.le_refl _) _
      have nw2 : Below W.heap.size W1 w2 := bw2.mono hsW1
      have hsw2 : W.heap.size ≤ w2.heap.size := Nat.le_trans hsW1 bw2.size
      have HY : Hid (∀ j u, (layC ⟨id, q, v⟩)[j]? = some u → w2.cell? ((⟨W1.heap.size, 0, none⟩ : Addr).add j) = some u) := by show ∀ j u, _ → _; rw [hw2]; exact cells_of_list rfl
      have HBw2 : Hid (Below W.heap.size W1 w2) := HBW1.out.trans nw2
      have hyw2 : W1.heap.size < w2.heap.size := by rw [hw2]; simp
      refine ⟨rfl, by rw [← hw2]; exact nw2, ?_⟩
      rw [← hw2]
      clear hw2
      refine anyG_all [4] (by kernel_rfl) ?_
      intro i hi2
      obtain rfl : i = 4 := by simpa using hi2
      clear hi2
      refine eOpG_keep rfl ?_
      go_wp2_with fail
      obtain ⟨w4, hw4⟩ : ∃ X, X = w2.alloc (.cells #[] 204) := ⟨_, rfl⟩
      have bw4 : Below w2.heap.size w2 w4 := by rw [hw4]; exact (Below.refl _ _).alloc (Nat.le_refl _) _
      have nw4 : Below W.heap.size w2 w4 := bw4.mono hsw2
      have hsw4 : W.heap.size ≤ w4.heap.size := Nat.le_trans hsw2 bw4.size
      have HE : Hid (w4.ownsRow W.heap.size 204 3 (.slice (some ⟨w2.heap.size, 0, none⟩) 0 0) 0 []) := by show World.ownsRow _ _ _ _ _ _ _; rw [hw4]; exact own_low (own_emptyL w2) hsw2
      have HBw4 : Hid (Below W.heap.size W1 w4) := HBw2.out.trans nw4
      have hyw4 : w2.heap.size < w4.heap.size := by rw [hw4]; simp
      refine ⟨rfl, by rw [← hw4]; exact nw4, ?_⟩
      rw [← hw4]
      clear hw4
      have HY2 : Hid (∀ j u, (layC ⟨id, q, v⟩)[j]? = some u → w4.cell? ((⟨W1.heap.size, 0, none⟩ : Addr).add j) = some u) := fun j u hj => (below_add bw4 hyw2 j).trans (HY.out j u hj)
      clear HY
      have HY := HY2
      clear HY2
      refine anyG_all [10] (by kernel_rfl) ?_
      intro i hi2
      obtain rfl : i = 10 := by simpa using hi2
      clear hi2
      refine eOpG_keep rfl ?_
      go_wp2_with fail
      refine ⟨rfl, Below.refl _ _, ?_⟩
      refine anyG_all [17] (by kernel_rfl) ?_
      intro i hi17
      obtain rfl : i = 17 := by simpa using hi17
      clear hi17
      refine eOpG_keep rfl ?_
      refine wpList_append_own _ rfl _ _ 194 rfl W.heap.size 204 i0 layZ 3 24 Tryz.underlying194 hi hz0 hz1 hz2 rfl (by decide) _ _ _ rfl HE.out ⟨W1.heap.size, 0, none⟩ 1 1 (layC ⟨id, q, v⟩) rfl rfl HY.out (layC_one _) (by unfold maxLen; omega) (by omega) hsw4 ?_
      intro nv w8 hown8 hgr8 _
      have n8 : Below W.heap.size w4 w8 := (Below.refl _ _).grown hgr8 hsw4 (fun j hj => (HE.out.lt j hj).1)
      have HB8 : Hid (Below W.heap.size W1 w8) := HBw4.out.trans n8
      have hown8' : w8.ownsRow W.heap.size 204 3 nv [(⟨id, q, v⟩ : Lay)].length ([(⟨id, q, v⟩ : Lay)].flatMap layC) := by
        simpa using hown8
      have HL8 : Hid (LayAt w8 nv [⟨id, q, v⟩]) := lay_of_own hown8'
      have HF8 : Hid (∀ k, nv.ownBlock = some k → W.heap.size ≤ k) := fun k hk => (hown8'.lt k hk).1
      obtain ⟨a8, c8, hv8⟩ := own_lenN hown8'
      have hv9 : nv = .slice a8 1 c8 := hv8
      clear hv8
      subst hv9
      clear hown8 hgr8 hown8'
      go_wp2_with fail
      refine ⟨rfl, n8, ?_⟩
      refine anyG_all [18] (by kernel_rfl) ?_
      intro i hi18
      obtain rfl : i = 18 := by simpa using hi18
      clear hi18
      refine eOpG_turn rfl (by decide) ?_
      have HBW : Hid (Below W.heap.size W w8) := HB1.out.trans HB8.out
      have HM8 : Hid (w8.ownsMap Tryz.prog 9 heldE mb n D) := map_same HR.out.map (HBW.out.block _ HR.out.map.lt)
      have hnm : n < maxLen := by unfold maxLen; omega
      refine wpList_mapUpdate_own _ rfl _ _ _ 136 rfl 9 194 law_strT Tryz.underlying136 heldE mb n D rfl HM8.out hnm _ _ (keyB item) rfl rfl (key_str item hx) (.held (.slice a8 1 c8)) [] rfl ?_
      intro w9 m9 g9
      have HRP := HR.out.put hBW HBW.out item _ _ HL8.out HF8.out m9 g9
      have hgw : W.grownBy w9 (some mb) := ⟨g9.os.trans HBW.out.os, g9.tape.trans HBW.out.tape, g9.output.trans HBW.out.output, Nat.le_trans HBW.out.size g9.size, fun j hj hne => (g9.block j (Nat.lt_of_lt_of_le hj HBW.out.size) hne).trans (HBW.out.block j hj)⟩
      have HFIN : Hid (_ ∧ _ ∧ _) := And.intro HRP (And.intro HF8.out hgw)
      clear HRP hgw m9 g9
      go_wp2_with fail
      refine ⟨rfl, ?_⟩
      refine anyG_nil (by kernel_rfl) ?_
      go_wp2
      go_end0
      exact ⟨rfl, _, HFIN.out.1, HFIN.out.2.1, HFIN.out.2.2⟩
  · simp only [Value.slice.injEq] at e
    obtain ⟨rfl, _, rfl⟩ := e
    refine anyG_all [4, 16] (by kernel_rfl) ?_
    intro i hi2
    have hi3 : i = 4 ∨ i = 16 := by simpa using hi2
    clear hi2
    rcases hi3 with rfl | rfl
    · refine eOpG_keep rfl ?_
      go_wp2_with fail
      obtain ⟨w2, hw2⟩ : ∃ X, X = W1.alloc (.cells #[] 204) := ⟨_, rfl⟩
      have bw2 : Below W1.heap.size W1 w2 := by rw [hw2]; exact (Below.refl _ _).alloc (Nat.le_refl _) _
      have nw2 : Below W.heap.size W1 w2 := bw2.mono hsW1
      have hsw2 : W.heap.size ≤ w2.heap.size := Nat.le_trans hsW1 bw2.size
      have HE : Hid (w2.ownsRow W.heap.size 204 3 (.slice (some ⟨W1.heap.size, 0, none⟩) 0 0) 0 []) := by show World.ownsRow _ _ _ _ _ _ _; rw [hw2]; exact own_low (own_emptyL W1) hsW1
      have HBw2 : Hid (Below W.heap.size W1 w2) := HBW1.out.trans nw2
      have hyw2 : W1.heap.size < w2.heap.size := by rw [hw2]; simp
      refine ⟨rfl, by rw [← hw2]; exact nw2, ?_⟩
      rw [← hw2]
      clear hw2
      refine anyG_all [10, 16] (by kernel_rfl) ?_
      intro i hi2
      have hi3 : i = 10 ∨ i = 16 := by simpa using hi2
      clear hi2
      rcases hi3 with rfl | rfl
      · refine eOpG_keep rfl ?_
        refine wpList_append_own _ rfl _ _ 194 rfl W.heap.size 204 i0 layZ 3 24 Tryz.underlying194 hi hz0 hz1 hz2 rfl (by decide) _ _ _ rfl HE.out ⟨g, o, none⟩ ys.length cp2 (ys.flatMap layC) rfl (flat_len layC 3 layC_len ys) ((H2.out.kept fun k hk => HBw2.out.block k (HLT.out k hk)).holds) (fun u hu => lay_ones ys u hu) (by unfold maxLen; omega) (by omega) hsw2 ?_
        intro v10 w3 hown10 hgr10 _
        have nw3 : Below W.heap.size w2 w3 := (Below.refl _ _).grown hgr10 hsw2 (fun j hj => (HE.out.lt j hj).1)
        have hsw3 : W.heap.size ≤ w3.heap.size := Nat.le_trans hsw2 hgr10.size
        have HBw3 : Hid (Below W.heap.size W1 w3) := HBw2.out.trans nw3
        rw [Nat.zero_add, List.nil_append] at hown10
        have HO : Hid (w3.ownsRow W.heap.size 204 3 v10 ys.length (ys.flatMap layC)) := hown10
        obtain ⟨a10, c10, hv10⟩ := own_lenN hown10
        subst hv10
        clear hown10 hgr10
        go_wp2_with fail
        refine ⟨rfl, nw3, ?_⟩
        refine anyG_all [16] (by kernel_rfl) ?_
        intro i hi2
        obtain rfl : i = 16 := by simpa using hi2
        clear hi2
        refine eOpG_keep rfl ?_
        go_wp2_with fail
        obtain ⟨w4, hw4⟩ : ∃ X, X = w3.alloc (.cells #[.int .i64 id, .int .i64 q, .int .i64 v] 204) := ⟨_, rfl⟩
        have bw4 : Below w3.heap.size w3 w4 := by rw [hw4]; exact (Below.refl _ _).alloc (Nat.le_refl _) _
        have nw4 : Below W.heap.size w3 w4 := bw4.mono hsw3
        have hsw4 : W.heap.size ≤ w4.heap.size := Nat.le_trans hsw3 bw4.size
        have HY : Hid (∀ j u, (layC ⟨id, q, v⟩)[j]? = some u → w4.cell? ((⟨w3.heap.size, 0, none⟩ : Addr).add j) = some u) := by show ∀ j u, _ → _; rw [hw4]; exact cells_of_list rfl
        have HBw4 : Hid (Below W.heap.size W1 w4) := HBw3.out.trans nw4
        have hyw4 : w3.heap.size < w4.heap.size := by rw [hw4]; simp
        refine ⟨rfl, by rw [← hw4]; exact nw4, ?_⟩
        rw [← hw4]
        clear hw4
        have HO2 : Hid (w4.ownsRow W.heap.size 204 3 (.slice a10 ys.length c10) ys.length (ys.flatMap layC)) := own_below HO.out bw4 (Nat.le_refl _)
        clear HO
        have HO := HO2
        clear HO2
        refine anyG_all [17] (by kernel_rfl) ?_
        intro i hi17
        obtain rfl : i = 17 := by simpa using hi17
        clear hi17
        refine eOpG_keep rfl ?_
        refine wpList_append_own _ rfl _ _ 194 rfl W.heap.size 204 i0 layZ 3 24 Tryz.underlying194 hi hz0 hz1 hz2 rfl (by decide) _ _ _ rfl HO.out ⟨w3.heap.size, 0, none⟩ 1 1 (layC ⟨id, q, v⟩) rfl rfl HY.out (layC_one _) (by unfold maxLen; omega) (by omega) hsw4 ?_
        intro nv w8 hown8 hgr8 _
        have n8 : Below W.heap.size w4 w8 := (Below.refl _ _).grown hgr8 hsw4 (fun j hj => (HO.out.lt j hj).1)
        have HB8 : Hid (Below W.heap.size W1 w8) := HBw4.out.trans n8
        have hown8' : w8.ownsRow W.heap.size 204 3 nv (ys ++ [(⟨id, q, v⟩ : Lay)]).length ((ys ++ [(⟨id, q, v⟩ : Lay)]).flatMap layC) := by
          rw [List.length_append, List.flatMap_append]
          simp only [List.flatMap_cons, List.flatMap_nil, List.append_nil, List.length_cons, List.length_nil]
          exact hown8
        have HL8 : Hid (LayAt w8 nv (ys ++ [⟨id, q, v⟩])) := lay_of_own hown8'
        have HF8 : Hid (∀ k, nv.ownBlock = some k → W.heap.size ≤ k) := fun k hk => (hown8'.lt k hk).1
        obtain ⟨a8, c8, hv8⟩ := own_lenN hown8'
        have hv9 : nv = .slice a8 (ys.length + 1) c8 := by rw [hv8, List.length_append]; rfl
        clear hv8
        subst hv9
        clear hown8 hgr8 hown8'
        go_wp2_with fail
        refine ⟨rfl, n8, ?_⟩
        refine anyG_all [18] (by kernel_rfl) ?_
        intro i hi18
        obtain rfl : i = 18 := by simpa using hi18
        clear hi18
        refine eOpG_turn rfl (by decide) ?_
        have HBW : Hid (Below W.heap.size W w8) := HB1.out.trans HB8.out
        have HM8 : Hid (w8.ownsMap Tryz.prog 9 heldE mb n D) := map_same HR.out.map (HBW.out.block _ HR.out.map.lt)
        have hnm : n < maxLen := by unfold maxLen; omega
        refine wpList_mapUpdate_own _ rfl _ _ _ 136 rfl 9 194 law_strT Tryz.underlying136 heldE mb n D rfl HM8.out hnm _ _ (keyB item) rfl rfl (key_str item hx) (.held (.slice a8 (ys.length + 1) c8)) [] rfl ?_
        intro w9 m9 g9
        have HRP := HR.out.put hBW HBW.out item _ _ HL8.out HF8.out m9 g9
        have hgw : W.grownBy w9 (some mb) := ⟨g9.os.trans HBW.out.os, g9.tape.trans HBW.out.tape, g9.output.trans HBW.out.output, Nat.le_trans HBW.out.size g9.size, fun j hj hne => (g9.block j (Nat.lt_of_lt_of_le hj HBW.out.size) hne).trans (HBW.out.block j hj)⟩
        have HFIN : Hid (_ ∧ _ ∧ _) := And.intro HRP (And.intro HF8.out hgw)
        clear HRP hgw m9 g9
        go_wp2_with fail
        refine ⟨rfl, ?_⟩
        refine anyG_nil (by kernel_rfl) ?_
        go_wp2
        go_end0
        exact ⟨rfl, _, HFIN.out.1, HFIN.out.2.1, HFIN.out.2.2⟩
      · refine eOpG_keep rfl ?_
        go_wp2_with fail
        obtain ⟨w3, hw3⟩ : ∃ X, X = w2.alloc (.cells #[.int .i64 id, .int .i64 q, .int .i64 v] 204) := ⟨_, rfl⟩
        have bw3 : Below w2.heap.size w2 w3 := by rw [hw3]; exact (Below.refl _ _).alloc (Nat.le_refl _) _
        have nw3 : Below W.heap.size w2 w3 := bw3.mono hsw2
        have hsw3 : W.heap.size ≤ w3.heap.size := Nat.le_trans hsw2 bw3.size
        have HY : Hid (∀ j u, (layC ⟨id, q, v⟩)[j]? = some u → w3.cell? ((⟨w2.heap.size, 0, none⟩ : Addr).add j) = some u) := by show ∀ j u, _ → _; rw [hw3]; exact cells_of_list rfl
        have HBw3 : Hid (Below W.heap.size W1 w3) := HBw2.out.trans nw3
        have hyw3 : w2.heap.size < w3.heap.size := by rw [hw3]; simp
        refine ⟨rfl, by rw [← hw3]; exact nw3, ?_⟩
        rw [← hw3]
        clear hw3
        have HE2 : Hid (w3.ownsRow W.heap.size 204 3 (.slice (some ⟨W1.heap.size, 0, none⟩) 0 0) 0 []) := own_below HE.out bw3 (Nat.le_refl _)
        clear HE
        have HE := HE2
        clear HE2
        refine anyG_all [10] (by kernel_rfl) ?_
        intro i hi2
        obtain rfl : i = 10 := by simpa using hi2
        clear hi2
        refine eOpG_keep rfl ?_
        refine wpList_append_own _ rfl _ _ 194 rfl W.heap.size 204 i0 layZ 3 24 Tryz.underlying194 hi hz0 hz1 hz2 rfl (by decide) _ _ _ rfl HE.out ⟨g, o, none⟩ ys.length cp2 (ys.flatMap layC) rfl (flat_len layC 3 layC_len ys) ((H2.out.kept fun k hk => HBw3.out.block k (HLT.out k hk)).holds) (fun u hu => lay_ones ys u hu) (by unfold maxLen; omega) (by omega) hsw3 ?_
        intro v10 w4 hown10 hgr10 _
        have nw4 : Below W.heap.size w3 w4 := (Below.refl _ _).grown hgr10 hsw3 (fun j hj => (HE.out.lt j hj).1)
        have hsw4 : W.heap.size ≤ w4.heap.size := Nat.le_trans hsw3 hgr10.size
        have HBw4 : Hid (Below W.heap.size W1 w4) := HBw3.out.trans nw4
        rw [Nat.zero_add, List.nil_append] at hown10
        have HO : Hid (w4.ownsRow W.heap.size 204 3 v10 ys.length (ys.flatMap layC)) := hown10
        have HY2 : Hid (∀ j u, (layC ⟨id, q, v⟩)[j]? = some u → w4.cell? ((⟨w2.heap.size, 0, none⟩ : Addr).add j) = some u) := fun j u hj => (grown_add hgr10 (ne_blk (Nat.ne_of_lt hyw2)) hyw3 j).trans (HY.out j u hj)
        clear HY
        have HY := HY2
        clear HY2
        obtain ⟨a10, c10, hv10⟩ := own_lenN hown10
        subst hv10
        clear hown10 hgr10
        go_wp2_with fail
        refine ⟨rfl, nw4, ?_⟩
        refine anyG_all [17] (by kernel_rfl) ?_
        intro i hi17
        obtain rfl : i = 17 := by simpa using hi17
        clear hi17
        refine eOpG_keep rfl ?_
        refine wpList_append_own _ rfl _ _ 194 rfl W.heap.size 204 i0 layZ 3 24 Tryz.underlying194 hi hz0 hz1 hz2 rfl (by decide) _ _ _ rfl HO.out ⟨w2.heap.size, 0, none⟩ 1 1 (layC ⟨id, q, v⟩) rfl rfl HY.out (layC_one _) (by unfold maxLen; omega) (by omega) hsw4 ?_
        intro nv w8 hown8 hgr8 _
        have n8 : Below W.heap.size w4 w8 := (Below.refl _ _).grown hgr8 hsw4 (fun j hj => (HO.out.lt j hj).1)
        have HB8 : Hid (Below W.heap.size W1 w8) := HBw4.out.trans n8
        have hown8' : w8.ownsRow W.heap.size 204 3 nv (ys ++ [(⟨id, q, v⟩ : Lay)]).length ((ys ++ [(⟨id, q, v⟩ : Lay)]).flatMap layC) := by
          rw [List.length_append, List.flatMap_append]
          simp only [List.flatMap_cons, List.flatMap_nil, List.append_nil, List.length_cons, List.length_nil]
          exact hown8
        have HL8 : Hid (LayAt w8 nv (ys ++ [⟨id, q, v⟩])) := lay_of_own hown8'
        have HF8 : Hid (∀ k, nv.ownBlock = some k → W.heap.size ≤ k) := fun k hk => (hown8'.lt k hk).1
        obtain ⟨a8, c8, hv8⟩ := own_lenN hown8'
        have hv9 : nv = .slice a8 (ys.length + 1) c8 := by rw [hv8, List.length_append]; rfl
        clear hv8
        subst hv9
        clear hown8 hgr8 hown8'
        go_wp2_with fail
        refine ⟨rfl, n8, ?_⟩
        refine anyG_all [18] (by kernel_rfl) ?_
        intro i hi18
        obtain rfl : i = 18 := by simpa using hi18
        clear hi18
        refine eOpG_turn rfl (by decide) ?_
        have HBW : Hid (Below W.heap.size W w8) := HB1.out.trans HB8.out
        have HM8 : Hid (w8.ownsMap Tryz.prog 9 heldE mb n D) := map_same HR.out.map (HBW.out.block _ HR.out.map.lt)
        have hnm : n < maxLen := by unfold maxLen; omega
        refine wpList_mapUpdate_own _ rfl _ _ _ 136 rfl 9 194 law_strT Tryz.underlying136 heldE mb n D rfl HM8.out hnm _ _ (keyB item) rfl rfl (key_str item hx) (.held (.slice a8 (ys.length + 1) c8)) [] rfl ?_
        intro w9 m9 g9
        have HRP := HR.out.put hBW HBW.out item _ _ HL8.out HF8.out m9 g9
        have hgw : W.grownBy w9 (some mb) := ⟨g9.os.trans HBW.out.os, g9.tape.trans HBW.out.tape, g9.output.trans HBW.out.output, Nat.le_trans HBW.out.size g9.size, fun j hj hne => (g9.block j (Nat.lt_of_lt_of_le hj HBW.out.size) hne).trans (HBW.out.block j hj)⟩
        have HFIN : Hid (_ ∧ _ ∧ _) := And.intro HRP (And.intro HF8.out hgw)
        clear HRP hgw m9 g9
        go_wp2_with fail
        refine ⟨rfl, ?_⟩
        refine anyG_nil (by kernel_rfl) ?_
        go_wp2
        go_end0
        exact ⟨rfl, _, HFIN.out.1, HFIN.out.2.1, HFIN.out.2.2⟩
    · refine eOpG_keep rfl ?_
      go_wp2_with fail
      obtain ⟨w2, hw2⟩ : ∃ X, X = W1.alloc (.cells #[.int .i64 id, .int .i64 q, .int .i64 v] 204) := ⟨_, rfl⟩
      have bw2 : Below W1.heap.size W1 w2 := by rw [hw2]; exact (Below.refl _ _).alloc (Nat.le_refl _) _
      have nw2 : Below W.heap.size W1 w2 := bw2.mono hsW1
      have hsw2 : W.heap.size ≤ w2.heap.size := Nat.le_trans hsW1 bw2.size
      have HY : Hid (∀ j u, (layC ⟨id, q, v⟩)[j]? = some u → w2.cell? ((⟨W1.heap.size, 0, none⟩ : Addr).add j) = some u) := by show ∀ j u, _ → _; rw [hw2]; exact cells_of_list rfl
      have HBw2 : Hid (Below W.heap.size W1 w2) := HBW1.out.trans nw2
      have hyw2 : W1.heap.size < w2.heap.size := by rw [hw2]; simp
      refine ⟨rfl, by rw [← hw2]; exact nw2, ?_⟩
      rw [← hw2]
      clear hw2
      refine anyG_all [4] (by kernel_rfl) ?_
      intro i hi2
      obtain rfl : i = 4 := by simpa using hi2
      clear hi2
      refine eOpG_keep rfl ?_
      go_wp2_with fail
      obtain ⟨w3, hw3⟩ : ∃ X, X = w2.alloc (.cells #[] 204) := ⟨_, rfl⟩
      have bw3 : Below w2.heap.size w2 w3 := by rw [hw3]; exact (Below.refl _ _).alloc (Nat.le_refl _) _
      have nw3 : Below W.heap.size w2 w3 := bw3.mono hsw2
      have hsw3 : W.heap.size ≤ w3.heap.size := Nat.le_trans hsw2 bw3.size
      have HE : Hid (w3.ownsRow W.heap.size 204 3 (.slice (some ⟨w2.heap.size, 0, none⟩) 0 0) 0 []) := by show World.ownsRow _ _ _ _ _ _ _; rw [hw3]; exact own_low (own_emptyL w2) hsw2
      have HBw3 : Hid (Below W.heap.size W1 w3) := HBw2.out.trans nw3
      have hyw3 : w2.heap.size < w3.heap.size := by rw [hw3]; simp
      refine ⟨rfl, by rw [← hw3]; exact nw3, ?_⟩
      rw [← hw3]
      clear hw3
      have HY2 : Hid (∀ j u, (layC ⟨id, q, v⟩)[j]? = some u → w3.cell? ((⟨W1.heap.size, 0, none⟩ : Addr).add j) = some u) := fun j u hj => (below_add bw3 hyw2 j).trans (HY.out j u hj)
      clear HY
      have HY := HY2
      clear HY2
      refine anyG_all [10] (by kernel_rfl) ?_
      intro i hi2
      obtain rfl : i = 10 := by simpa using hi2
      clear hi2
      refine eOpG_keep rfl ?_
      refine wpList_append_own _ rfl _ _ 194 rfl W.heap.size 204 i0 layZ 3 24 Tryz.underlying194 hi hz0 hz1 hz2 rfl (by decide) _ _ _ rfl HE.out ⟨g, o, none⟩ ys.length cp2 (ys.flatMap layC) rfl (flat_len layC 3 layC_len ys) ((H2.out.kept fun k hk => HBw3.out.block k (HLT.out k hk)).holds) (fun u hu => lay_ones ys u hu) (by unfold maxLen; omega) (by omega) hsw3 ?_
      intro v10 w4 hown10 hgr10 _
      have nw4 : Below W.heap.size w3 w4 := (Below.refl _ _).grown hgr10 hsw3 (fun j hj => (HE.out.lt j hj).1)
      have hsw4 : W.heap.size ≤ w4.heap.size := Nat.le_trans hsw3 hgr10.size
      have HBw4 : Hid (Below W.heap.size W1 w4) := HBw3.out.trans nw4
      rw [Nat.zero_add, List.nil_append] at hown10
      have HO : Hid (w4.ownsRow W.heap.size 204 3 v10 ys.length (ys.flatMap layC)) := hown10
      have HY2 : Hid (∀ j u, (layC ⟨id, q, v⟩)[j]? = some u → w4.cell? ((⟨W1.heap.size, 0, none⟩ : Addr).add j) = some u) := fun j u hj => (grown_add hgr10 (ne_blk (Nat.ne_of_gt hyw2)) (Nat.lt_of_lt_of_le hyw2 bw3.size) j).trans (HY.out j u hj)
      clear HY
      have HY := HY2
      clear HY2
      obtain ⟨a10, c10, hv10⟩ := own_lenN hown10
      subst hv10
      clear hown10 hgr10
      go_wp2_with fail
      refine ⟨rfl, nw4, ?_⟩
      refine anyG_all [17] (by kernel_rfl) ?_
      intro i hi17
      obtain rfl : i = 17 := by simpa using hi17
      clear hi17
      refine eOpG_keep rfl ?_
      refine wpList_append_own _ rfl _ _ 194 rfl W.heap.size 204 i0 layZ 3 24 Tryz.underlying194 hi hz0 hz1 hz2 rfl (by decide) _ _ _ rfl HO.out ⟨W1.heap.size, 0, none⟩ 1 1 (layC ⟨id, q, v⟩) rfl rfl HY.out (layC_one _) (by unfold maxLen; omega) (by omega) hsw4 ?_
      intro nv w8 hown8 hgr8 _
      have n8 : Below W.heap.size w4 w8 := (Below.refl _ _).grown hgr8 hsw4 (fun j hj => (HO.out.lt j hj).1)
      have HB8 : Hid (Below W.heap.size W1 w8) := HBw4.out.trans n8
      have hown8' : w8.ownsRow W.heap.size 204 3 nv (ys ++ [(⟨id, q, v⟩ : Lay)]).length ((ys ++ [(⟨id, q, v⟩ : Lay)]).flatMap layC) := by
        rw [List.length_append, List.flatMap_append]
        simp only [List.flatMap_cons, List.flatMap_nil, List.append_nil, List.length_cons, List.length_nil]
        exact hown8
      have HL8 : Hid (LayAt w8 nv (ys ++ [⟨id, q, v⟩])) := lay_of_own hown8'
      have HF8 : Hid (∀ k, nv.ownBlock = some k → W.heap.size ≤ k) := fun k hk => (hown8'.lt k hk).1
      obtain ⟨a8, c8, hv8⟩ := own_lenN hown8'
      have hv9 : nv = .slice a8 (ys.length + 1) c8 := by rw [hv8, List.length_append]; rfl
      clear hv8
      subst hv9
      clear hown8 hgr8 hown8'
      go_wp2_with fail
      refine ⟨rfl, n8, ?_⟩
      refine anyG_all [18] (by kernel_rfl) ?_
      intro i hi18
      obtain rfl : i = 18 := by simpa using hi18
      clear hi18
      refine eOpG_turn rfl (by decide) ?_
      have HBW : Hid (Below W.heap.size W w8) := HB1.out.trans HB8.out
      have HM8 : Hid (w8.ownsMap Tryz.prog 9 heldE mb n D) := map_same HR.out.map (HBW.out.block _ HR.out.map.lt)
      have hnm : n < maxLen := by unfold maxLen; omega
      refine wpList_mapUpdate_own _ rfl _ _ _ 136 rfl 9 194 law_strT Tryz.underlying136 heldE mb n D rfl HM8.out hnm _ _ (keyB item) rfl rfl (key_str item hx) (.held (.slice a8 (ys.length + 1) c8)) [] rfl ?_
      intro w9 m9 g9
      have HRP := HR.out.put hBW HBW.out item _ _ HL8.out HF8.out m9 g9
      have hgw : W.grownBy w9 (some mb) := ⟨g9.os.trans HBW.out.os, g9.tape.trans HBW.out.tape, g9.output.trans HBW.out.output, Nat.le_trans HBW.out.size g9.size, fun j hj hne => (g9.block j (Nat.lt_of_lt_of_le hj HBW.out.size) hne).trans (HBW.out.block j hj)⟩
      have HFIN : Hid (_ ∧ _ ∧ _) := And.intro HRP (And.intro HF8.out hgw)
      clear HRP hgw m9 g9
      go_wp2_with fail
      refine ⟨rfl, ?_⟩
      refine anyG_nil (by kernel_rfl) ?_
      go_wp2
      go_end0
      exact ⟨rfl, _, HFIN.out.1, HFIN.out.2.1, HFIN.out.2.2⟩
end Go.Proofs.YtcfgacdcgljbaaaGreatDoor
