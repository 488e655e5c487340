/- The walk of tallymanref.Trial. -/
import Derived.Test.YtcfgacdcgljbaaaGreatDoorRlTrM
import Derived.Test.YtcfgacdcgljbaaaGreatDoorRlPosts
import Derived.Test.YtcfgacdcgljbaaaGreatDoorBnI
import Derived.Test.YtcfgacdcgljbaaaGreatDoorTurnMem
import Derived.RangeFuncBox
namespace Go.Proofs.YtcfgacdcgljbaaaGreatDoor
open Go.RowKit
theorem Tryz.infoRbl : (Tryz.prog.info? 88).map (fun i => (i.zero, i.size, i.bytes)) = some (some blcZ, 2, 24) := by kernel_rfl
/-- Balances in the making. -/
structure TrAt (W : World) (ob : Nat) (ov : Value) (out : List Blc) : Prop where
  box : Boxed W ob 85 ov
  row : W.ownsRow ob 88 2 ov out.length (out.flatMap rblC)
theorem TrAt.below {W W' : World} {ob : Nat} {ov : Value} {out : List Blc} (h : TrAt W ob ov out) (hb : Below W.heap.size W W') : TrAt W' ob ov out :=
  ⟨(hb.block _ h.box.lt).trans h.box, own_below h.row hb (Nat.le_refl _)⟩
/-- What has been put into the balances. -/
def putF (f : ByteArray → Int) (es : List Blc) : ByteArray → Int := es.foldl (fun f e => addF f e.acc e.amt) f
def putS (S : ByteArray → Prop) (es : List Blc) : ByteArray → Prop := es.foldl (fun S e => fun x => S x ∨ x = e.acc) S
theorem putF_snoc (f : ByteArray → Int) (es : List Blc) (e : Blc) : putF f (es ++ [e]) = addF (putF f es) e.acc e.amt := by unfold putF; rw [List.foldl_append]; rfl
theorem putS_snoc (S : ByteArray → Prop) (es : List Blc) (e : Blc) : putS S (es ++ [e]) = fun x => putS S es x ∨ x = e.acc := by unfold putS; rw [List.foldl_append]; rfl
/-- One cell of a row turned. -/
theorem own_putB {w : World} {B g n cap : Nat} {c : List Blc} (h : w.ownsRow B 88 2 (.slice (some ⟨g, 0, none⟩) n cap) n (c.flatMap rblC)) (i : Nat) (hi : i < c.length) (m : Int) :
    (w.setCell ⟨g, i * 2 + 1, none⟩ (.int .i64 m)).ownsRow B 88 2 (.slice (some ⟨g, 0, none⟩) n cap) n ((c.set i ⟨c[i].acc, m⟩).flatMap rblC) := by
  rw [flatMap_set rblC 2 rblC_len 1 (.int .i64 m) (by omega) ⟨c[i].acc, m⟩ c i hi rfl]
  exact own_set h _ _
theorem str_eqT {a b : ByteArray} : (a.toList == b.toList) = decide (a = b) := by
  rw [ByteArray.toList_eq, ByteArray.toList_eq, Bool.eq_iff_iff]
  simp only [beq_iff_eq, decide_eq_true_eq]
  exact ⟨fun e => ByteArray.ext (Array.toList_inj.1 e), fun e => by rw [e]⟩
/-- Where an account stands, as far as has been looked. -/
def FoundB (out : List Blc) (a : ByteArray) (q : Nat) (r : Int) : Prop := (r = -1 ∧ ∀ i (h : i < out.length), i < q → out[i].acc ≠ a) ∨ ∃ (i : Nat) (h : i < out.length), r = i ∧ out[i].acc = a
theorem ixb0 (a b c d : Value) (w : World) : (Instr.index 176 (.agg #[a, b, c, d]) (.int .i64 0)).run Tryz.prog w = .ok (.agg #[a, b]) w := by kernel_rfl
theorem ixb1 (a b c d : Value) (w : World) : (Instr.index 176 (.agg #[a, b, c, d]) (.int .i64 1)).run Tryz.prog w = .ok (.agg #[c, d]) w := by kernel_rfl
theorem index_two (x y : Blc) (j : Nat) (hj : j < [x, y].length) (w : World) : (Instr.index 176 (.agg #[.string x.acc, .int .i64 x.amt, .string y.acc, .int .i64 y.amt]) (.int .i64 j)).run Tryz.prog w = .ok (.agg #[.string [x, y][j].acc, .int .i64 [x, y][j].amt]) w := by
  have h2 : j < 2 := hj
  obtain rfl | rfl : j = 0 ∨ j = 1 := by omega
  · exact ixb0 _ _ _ _ w
  · exact ixb1 _ _ _ _ w
theorem Gath.perm {out out' : List Blc} {f : ByteArray → Int} {S : ByteArray → Prop} (h : Gath out f S) (hp : out'.Perm out) : Gath out' f S :=
  ⟨(hp.map _).nodup_iff.2 h.nd, fun x => ((hp.map _).mem_iff).trans (h.mem x), fun b hb => h.val b (hp.mem_iff.1 hb), h.none⟩
/-- What sort.Slice does to balances (still to be shown of this program). -/
def SortsB : Prop := ∀ (W : World) (ob : Nat) (ov : Value) (out : List Blc), TrAt W ob ov out → out.length ≤ 2000 →
  Calls Tryz.prog 72 #[.iface 85 ov, .func (.func 73) #[] #[.pointer (some ⟨ob, 0, none⟩)]] W fun r W' => r = .returned (.tuple #[]) ∧ ∃ out' : List Blc, out'.Perm out ∧ (out'.Pairwise fun a b => a.acc.data.toList ≤ b.acc.data.toList) ∧ TrAt W' ob ov out' ∧ Below ob W W'
set_option maxRecDepth 20000 in
set_option maxHeartbeats 4000000 in
theorem rtrial_any (hsrt : SortsB) (ps : List Pst) (v : Value) (w : World) (h : PstsAt w v ps) (hl : ps.length ≤ 1000) :
    Calls Tryz.prog 29 #[v] w fun r w' => ∃ (u : Value) (out : List Blc), r = .returned u ∧ w'.ownsRow w.heap.size 88 2 u out.length (out.flatMap rblC) ∧ Gath out (fun x => bal x 0 ps) (fun x => x ∈ accs ps) ∧ (out.Pairwise fun a b => a.acc.data.toList ≤ b.acc.data.toList) ∧ Below w.heap.size w w' := by
  have HSRT := hidE hsrt
  clear hsrt
  obtain ⟨i0, hi, hz0, hz1, hz2⟩ := info_parts Tryz.infoRbl
  have H : Hid (PstsAt w v ps) := h
  have f1 : ∃ ad c, v = .slice ad ps.length c := by
    rcases h with ⟨e, e2⟩ | ⟨g, o, c, e, _⟩
    · exact ⟨none, 0, by rw [e, e2]; rfl⟩
    · exact ⟨_, _, e⟩
  obtain ⟨ad1, cp1, rfl⟩ := f1
  clear h
  obtain ⟨ob, hob⟩ : ∃ n, n = w.heap.size := ⟨_, rfl⟩
  obtain ⟨w0, hw0⟩ : ∃ W, W = w.alloc (.cells #[.slice none 0 0] 85) := ⟨_, rfl⟩
  have hb0 : Below ob w w0 := by rw [hw0, hob]; exact (Below.refl _ _).alloc (Nat.le_refl _) _
  have HT0 : Hid (TrAt w0 ob (.slice none 0 0) []) := by
    show TrAt _ _ _ _
    rw [hw0, hob]
    exact ⟨Boxed.new w _ _, World.ownsRow_nil _ _ _ _⟩
  have HB0 := hidE hb0
  have HW0 := hidE hw0
  have HOB := hidE hob
  clear hb0 hw0 hob
  go_enter Tryz.func29, Tryz.ntmps29
  go_wp2
  rw [← HW0.out, ← HOB.out]
  go_loopw [12] (fun i wr => ∃ (k : Nat) (ov : Value) (out : List Blc), k ≤ ps.length ∧ i = .int .i64 k ∧ Hid (TrAt wr ob ov out) ∧ Hid (Gath out (fun x => bal x 0 (ps.take k)) (fun x => x ∈ accs (ps.take k))) ∧ out.length ≤ 2 * k ∧ Hid (Below ob w wr)) (fun i _ => ps.length - (intOf i).toNat)
  case atStart => exact ⟨0, _, [], Nat.zero_le _, rfl, HT0, gath_zero.cong (fun x => rfl) (fun x => by simp [accs]), Nat.le_refl _, HB0⟩
  case round =>
    obtain ⟨k, ov, out, hk, rfl, HT, HG, hol, HB⟩ := hrel
    by_cases hlt : k < ps.length
    · have hkz : (k : Int) < (ps.length : Int) := by omega
      rcases H.out with ⟨_, e2⟩ | ⟨g, o, cp, e1, hg, p⟩
      · rw [e2] at hlt; exact absurd hlt (Nat.not_lt_zero _)
      simp only [Value.slice.injEq] at e1
      obtain ⟨rfl, _, rfl⟩ := e1
      have hgo : g < ob := by rw [HOB.out]; exact hg
      have p0 := (HB.out.cell (p := ⟨g, o + k * 3 + 0, none⟩) hgo).trans (p k 0 hlt (by omega))
      have p1 := (HB.out.cell (p := ⟨g, o + k * 3 + 1, none⟩) hgo).trans (p k 1 hlt (by omega))
      have p2 := (HB.out.cell (p := ⟨g, o + k * 3 + 2, none⟩) hgo).trans (p k 2 hlt (by omega))
      have HTK : Hid (ps.take (k + 1) = ps.take k ++ [ps[k]]) := List.take_succ_eq_append_getElem hlt
      clear p
      generalize ps[k] = y at p0 p1 p2 HTK
      obtain ⟨d, c, n⟩ := y
      simp only [pstC, List.getElem?_cons_zero, List.getElem?_cons_succ, Nat.add_zero] at p0 p1 p2
      obtain ⟨W1, hW1⟩ : ∃ W, W = wr.alloc (.cells #[.string d, .string c, .int .i64 n] 159) := ⟨_, rfl⟩
      have hb1 : Below wr.heap.size wr W1 := by rw [hW1]; exact (Below.refl _ _).alloc (Nat.le_refl _) _
      have HT1 : Hid (TrAt W1 ob ov out) := HT.out.below hb1
      have hobs : ob ≤ wr.heap.size := by rw [HOB.out]; exact HB.out.size
      have HB1 : Hid (Below ob w W1) := HB.out.trans (hb1.mono hobs)
      have HW1 := hidE hW1
      have hix := index_two ⟨d, n⟩ ⟨c, wrap64 (-n)⟩
      simp only at hix
      obtain ⟨es, hes⟩ : ∃ es : List Blc, es = [⟨d, n⟩, ⟨c, wrap64 (-n)⟩] := ⟨_, rfl⟩
      have hel : es.length = 2 := by rw [hes]; rfl
      rw [← hes] at hix
      have HES := hidE hes
      clear hW1 hb1 hes HT HB
      obtain ⟨wo, rfl⟩ : ∃ X, X = wr := ⟨_, rfl⟩
      go_wp2_with fail
      rw [← HW1.out]
      go_loopw [28] (fun i wr => ∃ (j : Nat) (ov : Value) (out : List Blc), j ≤ 2 ∧ i = .int .i64 j ∧ Hid (TrAt wr ob ov out) ∧ Hid (Gath out (putF (fun x => bal x 0 (ps.take k)) (es.take j)) (putS (fun x => x ∈ accs (ps.take k)) (es.take j))) ∧ out.length ≤ 2 * k + j ∧ Hid (Below ob w wr)) (fun i _ => 2 - (intOf i).toNat)
      case atStart => exact ⟨0, _, out, by omega, rfl, HT1, HG, by omega, HB1⟩
      case round =>
        obtain ⟨j, ov, out, hj, rfl, HT, HG, hol2, HB⟩ := hrel
        have hobs : ob ≤ wr.heap.size := by rw [HOB.out]; exact HB.out.size
        by_cases hj2 : j < 2
        · have hjz : (j : Int) < 2 := by omega
          have hx := hix j (by omega) wr
          have HTJ : Hid (es.take (j + 1) = es.take j ++ [es[j]]) := List.take_succ_eq_append_getElem (by omega)
          generalize es[j] = e at hx HTJ
          obtain ⟨a, m⟩ := e
          simp only at hx
          obtain ⟨ao, no, co, hov⟩ : ∃ a n c, ov = .slice a n c := own_lenL HT.out.row
          subst hov
          have hno : no = out.length := by
            rcases own_form HT.out.row with ⟨x1, x2, _⟩ | ⟨_, _, x1, _⟩
            · simp only [Value.slice.injEq] at x1; omega
            · simp only [Value.slice.injEq] at x1; exact x1.2.1
          subst hno
          obtain ⟨W2, hW2⟩ : ∃ W, W = wr.alloc (.cells #[.string a, .int .i64 m] 88) := ⟨_, rfl⟩
          have hb2 : Below wr.heap.size wr W2 := by rw [hW2]; exact (Below.refl _ _).alloc (Nat.le_refl _) _
          have HT2 : Hid (TrAt W2 ob (.slice ao out.length co) out) := HT.out.below hb2
          have HB2 : Hid (Below ob w W2) := HB.out.trans (hb2.mono hobs)
          have q0 : W2.cell? ⟨wr.heap.size, 0, none⟩ = some (.string a) := by rw [hW2]; simp
          have q1 : W2.cell? ⟨wr.heap.size, 1, none⟩ = some (.int .i64 m) := by rw [hW2]; simp
          have HQ := hidE (And.intro q0 q1)
          have HW2 := hidE hW2
          have cb : wr.cell? ⟨ob, 0, none⟩ = some (.slice ao out.length co) := HT.out.box.cell
          have hob2 : ob < wr.heap.size := HT.out.box.lt
          have hobn : ob ≠ wr.heap.size := by omega
          have HGW : Hid (∀ k, (Value.slice ao out.length co).ownBlock = some k → k < wr.heap.size) := fun k e => (HT.out.row.lt k e).2
          have HOW : Hid (ob < wr.heap.size) := hob2
          clear hW2 hb2 q0 q1 HT HB hix
          obtain ⟨wm, rfl⟩ : ∃ X, X = wr := ⟨_, rfl⟩
          go_wp2_with fail
          rw [← HW2.out]
          go_loopw [8, 33] (fun kv i wr => ∃ (q : Nat) (r : Int), q ≤ out.length ∧ i = .int .i64 q ∧ kv = .int .i64 r ∧ Hid (FoundB out a q r) ∧ Hid (∃ m, wr = W2.drewN m)) (fun _ i _ => out.length - (intOf i).toNat)
          case atStart => exact ⟨0, -1, Nat.zero_le _, rfl, rfl, Or.inl ⟨rfl, fun i _ h => absurd h (Nat.not_lt_zero _)⟩, ⟨0, rfl⟩⟩
          case round =>
            obtain ⟨q, r, hq, rfl, rfl, HFB, HDW⟩ := hrel
            have hbd : Below W2.heap.size W2 wr := by obtain ⟨mm, e⟩ := HDW.out; rw [e]; exact ⟨rfl, rfl, rfl, Nat.le_refl _, fun _ _ => rfl⟩
            have HT3 : Hid (TrAt wr ob (.slice ao out.length co) out) := HT2.out.below hbd
            have HB3 : Hid (Below ob w wr) := HB2.out.trans (hbd.mono (by have := HT2.out.box.lt; omega))
            have q0 := below_cellL hbd HQ.out.1
            have q1 := below_cellL hbd HQ.out.2
            have cb3 : wr.cell? ⟨ob, 0, none⟩ = some (.slice ao out.length co) := HT3.out.box.cell
            by_cases hql : q < out.length
            · have hqz : (q : Int) < (out.length : Int) := by omega
              rcases own_form HT3.out.row with ⟨_, x2, _⟩ | ⟨g2, cp2, x1, hg2, hgl2, _⟩
              · rw [x2] at hql; exact absurd hql (Nat.not_lt_zero _)
              simp only [Value.slice.injEq] at x1
              obtain ⟨rfl, _, rfl⟩ := x1
              have t0 := (own_cell rblC_len HT3.out.row q 0 hql (by omega)).1
              have HNX : Hid (FoundB out a (q + 1) r ∨ out[q].acc = a) := by
                by_cases e : out[q].acc = a
                · exact Or.inr e
                · refine Or.inl ?_
                  rcases HFB.out with ⟨h1, h2⟩ | h1
                  · refine Or.inl ⟨h1, fun i h hi => ?_⟩
                    rcases Nat.lt_succ_iff_lt_or_eq.1 hi with c | c
                    · exact h2 i h c
                    · subst c; exact e
                  · exact Or.inr h1
              have HYX : Hid (out[q].acc = a → FoundB out a (q + 1) q) := fun e => Or.inr ⟨q, hql, rfl, e⟩
              have heq := str_eqT (a := out[q].acc) (b := a)
              have HNE : Hid (out[q].acc ≠ a → FoundB out a (q + 1) r) := fun e => HNX.out.resolve_right e
              simp only [rblC, List.getElem?_cons_zero, Nat.add_zero] at t0
              generalize out[q].acc = xa at t0 heq HYX HNE
              have mixed : Tryz.prog.follows .mixedOrders = true := by kernel_rfl
              clear HNX hbd q1 cb
              by_cases e : xa = a
              · have he : (xa.toList == a.toList) = true := by rw [heq]; simpa using e
                have HF2 : Hid (FoundB out a (q + 1) q) := HYX.out e
                clear heq e HYX HNE
                go_wp2_with fail
                go_quiet (fail)
                go_wp2
                go_roundw
                case rel =>
                  obtain ⟨mm, e⟩ := HDW.out
                  exact ⟨q + 1, q, by omega, by go_num, rfl, HF2, ⟨mm + nq, by rw [e, World.drewN_drewN]⟩⟩
                case measure => simp [intOf]; omega
              · have he : (xa.toList == a.toList) = false := by rw [heq]; simpa using e
                have HF2 : Hid (FoundB out a (q + 1) r) := HNE.out e
                clear heq e HYX HNE
                go_wp2_with fail
                go_quiet (fail)
                go_wp2
                go_roundw
                case rel =>
                  obtain ⟨mm, e⟩ := HDW.out
                  exact ⟨q + 1, r, by omega, by go_num, rfl, HF2, ⟨mm + nq, by rw [e, World.drewN_drewN]⟩⟩
                case measure => simp [intOf]; omega
            · obtain rfl : q = out.length := by omega
              have hqz : ¬ (out.length : Int) < (out.length : Int) := by omega
              clear cb hbd
              rcases HFB.out with ⟨rfl, hnone⟩ | ⟨i1, hidx, rfl, hacc⟩
              · have HNO : Hid (¬ putS (fun x => x ∈ accs (ps.take k)) (es.take j) a) := fun hS => by
                  obtain ⟨bb, hbb, e⟩ := List.mem_map.1 ((HG.out.mem a).2 hS)
                  obtain ⟨ii, hii, e2⟩ := List.getElem_of_mem hbb
                  exact hnone ii hii hii (by rw [e2]; exact e)
                have hm1 : ((-1 : Int) < 0) := by omega
                have hwl : ob ≤ wr.heap.size := by have := HT3.out.box.lt; omega
                have hwl2 : ob < wr.heap.size := HT3.out.box.lt
                have hfb := HT3.out.box.frozen
                go_wp2_with (first
                  | (at_builtin; refine wpList_append_own _ rfl _ _ 85 rfl ob 88 i0 blcZ 2 24 Tryz.underlying85 hi hz0 hz1 hz2 rfl (by decide) (.slice ao out.length co) _ _ rfl (HT3.out.row.alloc _) ⟨wr.heap.size, 0, none⟩ 1 1 (rblC ⟨a, 0⟩) rfl rfl ?d1 ?d2 ?d3 ?d4 ?d5 ?_)
                  | go_in)
                case d1 => intro jj u h; simpa [rblC] using h
                case d2 => exact rblC_one _
                case d3 => unfold maxLen; omega
                case d4 => omega
                case d5 => first | omega | (simp; omega)
                intro v5 w5 hown5 hgr5 _
                obtain ⟨a5, n5, c5, hv5⟩ := own_lenL hown5
                subst hv5
                obtain ⟨b5, b6, o6, _, bl6⟩ := Boxed.appended (n₀ := ob) (tmp := .cells #[.string a, .int .i64 0] 88) HT3.out.box (by decide) HT3.out.row hwl (Nat.le_refl _) hown5 hgr5
                obtain ⟨out2, hout2⟩ : ∃ l : List Blc, l = out ++ [⟨a, 0⟩] := ⟨_, rfl⟩
                have hl2 : out2.length = out.length + 1 := by rw [hout2]; simp
                have hidx : out.length < out2.length := by omega
                obtain ⟨W5, hW5⟩ : ∃ X, X = w5.setCell ⟨ob, 0, none⟩ (.slice a5 n5 c5) := ⟨_, rfl⟩
                rw [← hW5] at b6 o6 bl6
                have o7 : W5.ownsRow ob 88 2 (.slice a5 n5 c5) out2.length (out2.flatMap rblC) := by
                  rw [hl2, hout2, List.flatMap_append]
                  simpa using o6
                have HQX : Hid (W5.cell? ⟨wm.heap.size, 1, none⟩ = some (.int .i64 m)) := by
                  have hwm : wm.heap.size < wr.heap.size := World.block_lt_of_cell? _ _ q1
                  have h1 : (wr.alloc (.cells #[.string a, .int .i64 0] 88)).cell? ⟨wm.heap.size, 1, none⟩ = some (.int .i64 m) := below_cellL ((Below.refl wr.heap.size wr).alloc (Nat.le_refl _) _) q1
                  have h2 : w5.cell? ⟨wm.heap.size, 1, none⟩ = some (.int .i64 m) := (World.cell?_of_block (a := ⟨wm.heap.size, 1, none⟩) (hgr5.block _ (by rw [World.size_alloc]; exact Nat.lt_succ_of_lt hwm) (fun e => absurd (HGW.out _ e.symm) (Nat.lt_irrefl _)))).trans h1
                  show _ = _
                  rw [hW5]
                  exact (World.cell?_of_block (a := ⟨wm.heap.size, 1, none⟩) (Below.heap_setCell _ _ _ _ (by show wm.heap.size ≠ ob; have h3 : ob < wm.heap.size := HOW.out; omega))).trans h2
                have HBX : Hid (Below ob w W5) := HB3.out.trans bl6
                rcases own_form o7 with ⟨_, x2, _⟩ | ⟨g2, co2, x1, hg2, hgl2, _⟩
                · omega
                simp only [Value.slice.injEq] at x1
                obtain ⟨rfl, rfl, rfl⟩ := x1
                have HTX : Hid (TrAt W5 ob (.slice (some ⟨g2, 0, none⟩) out2.length c5) out2) := ⟨b6, o7⟩
                have cb5 := b5.cell
                have fb5 := b5.frozen
                have HW5 := hidE hW5
                have HOUT2 := hidE hout2
                have HL2 := hidE hl2
                clear hown5 hgr5 b5 b6 o6 bl6 o7 hW5 hout2 q0 q1 cb3 hfb hl2
                go_wp2_with fail
                rw [← HW5.out]
                refine wp_region_turn [(.read, 0), (.pure, 1), (.pure, 2), (.pure, 3), (.read, 4), (.pure, 5), (.read, 6), (.pure, 7), (.pure, 8), (.pure, 9), (.turn, 10)] (by kernel_rfl) (by kernel_rfl) ?_
                obtain ⟨DS, hDS⟩ : ∃ X, X = W5.drew := ⟨_, rfl⟩
                rw [← hDS]
                have hbDS : Below W5.heap.size W5 DS := by rw [hDS]; exact below_drew _
                have hTD : TrAt DS ob (.slice (some ⟨g2, 0, none⟩) out2.length c5) out2 := HTX.out.below hbDS
                have HBD : Hid (Below ob w DS) := HBX.out.trans (hbDS.mono (by have := HTX.out.box.lt; omega))
                have rA := own_cell rblC_len hTD.row out.length 1 hidx (by omega)
                have r1 := below_cellL hbDS HQX.out
                have r0 := hTD.box.cell
                have HTD := hidE hTD
                have r2 : DS.cell? ⟨g2, out.length * 2 + 1, none⟩ = some (.int .i64 out2[out.length].amt) := rA.1
                have r3 := rA.2
                obtain ⟨am, ham⟩ : ∃ z, z = out2[out.length].amt := ⟨_, rfl⟩
                rw [← ham] at r2
                have HAM := hidE ham
                have f0 := fun n : Up DS => n.cell r0
                have f1 := fun n : Up DS => n.cell r1
                have f2 := fun n : Up DS => n.cell r2
                have hU := up_ne
                have hA := anyW_ne
                clear hDS ham r0 r1 hTD rA hbDS
                repeat (first | refine turn_p rfl ?_ | refine turn_q rfl ?_); go_big_quiet_step (fail); refine wpQuiet_nil ?_
                clear f0 f1 f2
                refine turn_t rfl ?_
                go_wp2_with fail
                refine ⟨rfl, ?_⟩
                refine turn_nil ?_
                have HT4 : Hid (TrAt (DS.setCell ⟨g2, out.length * 2 + 1, none⟩ (.int .i64 (wrap64 (am + m)))) ob (.slice (some ⟨g2, 0, none⟩) out2.length c5) (out2.set out.length ⟨out2[out.length].acc, wrap64 (out2[out.length].amt + m)⟩)) := by
                  show TrAt _ _ _ _
                  rw [HAM.out]
                  have hne : some ob ≠ some g2 := HTD.out.box.not_row (by decide) HTD.out.row
                  refine ⟨(Below.heap_setCell _ _ _ _ (by show ob ≠ g2; intro e; exact hne (by rw [e]))).trans HTD.out.box, ?_⟩
                  rw [List.length_set]
                  exact own_putB HTD.out.row out.length hidx _
                have HG4 : Hid (Gath (out2.set out.length ⟨out2[out.length].acc, wrap64 (out2[out.length].amt + m)⟩) (putF (fun x => bal x 0 (ps.take k)) (es.take (j + 1))) (putS (fun x => x ∈ accs (ps.take k)) (es.take (j + 1)))) := by
                  show Gath _ _ _
                  rw [HTJ.out, putF_snoc, putS_snoc]
                  have e : out2.set out.length ⟨out2[out.length].acc, wrap64 (out2[out.length].amt + m)⟩ = out ++ [⟨a, wrap64 (0 + m)⟩] := by
                    have h1 := HOUT2.out
                    subst h1
                    simp
                  rw [e]
                  exact HG.out.new m HNO.out
                have HL4 : Hid ((out2.set out.length ⟨out2[out.length].acc, wrap64 (out2[out.length].amt + m)⟩).length ≤ 2 * k + (j + 1)) := by
                  show _ ≤ _
                  rw [List.length_set, HOUT2.out, List.length_append, List.length_singleton]
                  omega
                have HB4 : Hid (Below ob w (DS.setCell ⟨g2, out.length * 2 + 1, none⟩ (.int .i64 (wrap64 (am + m))))) := HBD.out.setCell (p := ⟨g2, out.length * 2 + 1, none⟩) hg2 _
                generalize (out2.set out.length ⟨out2[out.length].acc, wrap64 (out2[out.length].amt + m)⟩) = out4 at HT4 HG4 HL4
                obtain ⟨W4, hW4⟩ : ∃ X, X = DS.setCell ⟨g2, out.length * 2 + 1, none⟩ (.int .i64 (wrap64 (am + m))) := ⟨_, rfl⟩
                rw [← hW4] at HT4 HB4
                rw [← hW4]
                clear hW4 HTD HBD HTX HBX HQX r2 r3
                go_wp2
                go_roundw
                case rel => exact ⟨j + 1, _, out4, by omega, by go_num, HT4, HG4, HL4.out, HB4⟩
                case measure => simp [intOf]; omega
              · have hiz : ¬ (i1 : Int) < 0 := by omega
                rcases own_form HT3.out.row with ⟨_, x2, _⟩ | ⟨g2, co2, x1, hg2, hgl2, _⟩
                · rw [x2] at hidx; exact absurd hidx (Nat.not_lt_zero _)
                simp only [Value.slice.injEq] at x1
                obtain ⟨rfl, _, rfl⟩ := x1
                have HTX := HT3
                have HBX := HB3
                have HQX := hidE q1
                clear q0 q1 cb3
                go_wp2_with fail
                refine wp_region_turn [(.read, 0), (.pure, 1), (.pure, 2), (.pure, 3), (.read, 4), (.pure, 5), (.read, 6), (.pure, 7), (.pure, 8), (.pure, 9), (.turn, 10)] (by kernel_rfl) (by kernel_rfl) ?_
                obtain ⟨DS, hDS⟩ : ∃ X, X = wr.drew := ⟨_, rfl⟩
                rw [← hDS]
                have hbDS : Below wr.heap.size wr DS := by rw [hDS]; exact below_drew _
                have hTD : TrAt DS ob (.slice (some ⟨g2, 0, none⟩) out.length co) out := HTX.out.below hbDS
                have HBD : Hid (Below ob w DS) := HBX.out.trans (hbDS.mono (by have := HTX.out.box.lt; omega))
                have rA := own_cell rblC_len hTD.row i1 1 hidx (by omega)
                have r1 := below_cellL hbDS HQX.out
                have r0 := hTD.box.cell
                have HTD := hidE hTD
                have r2 : DS.cell? ⟨g2, i1 * 2 + 1, none⟩ = some (.int .i64 out[i1].amt) := rA.1
                have r3 := rA.2
                obtain ⟨am, ham⟩ : ∃ z, z = out[i1].amt := ⟨_, rfl⟩
                rw [← ham] at r2
                have HAM := hidE ham
                have f0 := fun n : Up DS => n.cell r0
                have f1 := fun n : Up DS => n.cell r1
                have f2 := fun n : Up DS => n.cell r2
                have hU := up_ne
                have hA := anyW_ne
                clear hDS ham r0 r1 hTD rA hbDS
                repeat (first | refine turn_p rfl ?_ | refine turn_q rfl ?_); go_big_quiet_step (fail); refine wpQuiet_nil ?_
                clear f0 f1 f2
                refine turn_t rfl ?_
                go_wp2_with fail
                refine ⟨rfl, ?_⟩
                refine turn_nil ?_
                have HT4 : Hid (TrAt (DS.setCell ⟨g2, i1 * 2 + 1, none⟩ (.int .i64 (wrap64 (am + m)))) ob (.slice (some ⟨g2, 0, none⟩) out.length co) (out.set i1 ⟨out[i1].acc, wrap64 (out[i1].amt + m)⟩)) := by
                  show TrAt _ _ _ _
                  rw [HAM.out]
                  have hne : some ob ≠ some g2 := HTD.out.box.not_row (by decide) HTD.out.row
                  refine ⟨(Below.heap_setCell _ _ _ _ (by show ob ≠ g2; intro e; exact hne (by rw [e]))).trans HTD.out.box, ?_⟩
                  rw [List.length_set]
                  exact own_putB HTD.out.row i1 hidx _
                have HG4 : Hid (Gath (out.set i1 ⟨out[i1].acc, wrap64 (out[i1].amt + m)⟩) (putF (fun x => bal x 0 (ps.take k)) (es.take (j + 1))) (putS (fun x => x ∈ accs (ps.take k)) (es.take (j + 1)))) := by
                  show Gath _ _ _
                  rw [HTJ.out, putF_snoc, putS_snoc]
                  subst hacc
                  exact HG.out.old hidx m
                have HL4 : Hid ((out.set i1 ⟨out[i1].acc, wrap64 (out[i1].amt + m)⟩).length ≤ 2 * k + (j + 1)) := by
                  show _ ≤ _
                  rw [List.length_set]
                  omega
                have HB4 : Hid (Below ob w (DS.setCell ⟨g2, i1 * 2 + 1, none⟩ (.int .i64 (wrap64 (am + m))))) := HBD.out.setCell (p := ⟨g2, i1 * 2 + 1, none⟩) hg2 _
                generalize (out.set i1 ⟨out[i1].acc, wrap64 (out[i1].amt + m)⟩) = out4 at HT4 HG4 HL4
                obtain ⟨W4, hW4⟩ : ∃ X, X = DS.setCell ⟨g2, i1 * 2 + 1, none⟩ (.int .i64 (wrap64 (am + m))) := ⟨_, rfl⟩
                rw [← hW4] at HT4 HB4
                rw [← hW4]
                clear hW4 HTD HBD HTX HBX HQX r2 r3
                go_wp2
                go_roundw
                case rel => exact ⟨j + 1, _, out4, by omega, by go_num, HT4, HG4, HL4.out, HB4⟩
                case measure => simp [intOf]; omega
        · obtain rfl : j = 2 := by omega
          have hjz : ¬ ((2 : Nat) : Int) < 2 := by omega
          have HG2 : Hid (Gath out (fun x => bal x 0 (ps.take (k + 1))) (fun x => x ∈ accs (ps.take (k + 1)))) := by
            have h1 := HG.out
            rw [show es.take 2 = es from List.take_of_length_le (by omega), HES.out] at h1
            refine h1.cong (fun x => ?_) (fun x => ?_)
            · rw [HTK.out]; exact (bal_two (ps.take k) ⟨d, c, n⟩ x).symm
            · rw [HTK.out]; exact accs_two (ps.take k) ⟨d, c, n⟩ x
          clear hix
          go_wp2
          go_roundw
          case rel => exact ⟨k + 1, _, out, by omega, by go_num, HT, HG2, by omega, HB⟩
          case measure => simp [intOf]; omega
    · obtain rfl : k = ps.length := by omega
      have hkz : ¬ (ps.length : Int) < (ps.length : Int) := by omega
      rw [List.take_length] at HG
      have cb := HT.out.box.cell
      obtain ⟨ao, no, co, hov⟩ : ∃ a n c, ov = .slice a n c := own_lenL HT.out.row
      subst hov
      have hso := HSRT.out wr ob (.slice ao no co) out HT.out (by omega)
      go_wp2_with fail
      refine hso.mono ?_
      rintro r w9 ⟨rfl, out9, hp9, hs9, ht9, hb9⟩
      have cb9 := ht9.box.cell
      have HF : Hid (w9.ownsRow ob 88 2 (.slice ao no co) out9.length (out9.flatMap rblC) ∧ Gath out9 (fun x => bal x 0 ps) (fun x => x ∈ accs ps) ∧ (out9.Pairwise fun a b => a.acc.data.toList ≤ b.acc.data.toList) ∧ Below ob w w9) := ⟨ht9.row, HG.out.perm hp9, hs9, HB.out.trans hb9⟩
      clear hso hp9 hs9 ht9 hb9 cb
      go_wp2
      go_ret
      obtain ⟨h1, h2, h3, h4⟩ := HF.out
      rw [HOB.out] at h1 h4
      exact ⟨_, out9, rfl, h1, h2, h3, h4⟩
end Go.Proofs.YtcfgacdcgljbaaaGreatDoor
