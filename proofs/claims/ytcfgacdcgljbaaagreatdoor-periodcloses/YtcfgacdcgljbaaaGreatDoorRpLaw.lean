/- The walk of tallymanlaw.PeriodCloses. -/
import Derived.Test.YtcfgacdcgljbaaaGreatDoorBoF
import Derived.Test.YtcfgacdcgljbaaaGreatDoorBoG
import Derived.Test.YtcfgacdcgljbaaaGreatDoorBoH
namespace Go.Proofs.YtcfgacdcgljbaaaGreatDoor
open Go.RowKit Go.Maps
/-- What the listed variables hold. -/
structure GlobP (w : World) : Prop where
  et : ErrType w
  len : LenTab w
  tab : TabG w
theorem GlobP.below {w w' : World} (h : GlobP w) (hb : Below w.heap.size w w') : GlobP w' := ⟨h.et.below hb, h.len.below hb, h.tab.below hb⟩
theorem neq_fig (a b c d e : Int) (w : World) : (binOp BinOp.neq 38 (.agg #[.int .i64 a, .int .i64 b, .int .i64 c, .int .i64 d, .int .i64 e]) (.agg #[.int .i64 a, .int .i64 b, .int .i64 c, .int .i64 d, .int .i64 e])).run Tryz.prog w = .ok (.bool false) w := by
  have hS : Tryz.prog.underlying 38 = some (.struct (Tryz.prog.fieldsOf 38)) := by kernel_rfl
  have hp : Tryz.prog.stoodInHeld 38 = false := by kernel_rfl
  have u3 := Tryz.underlying3
  have a3 := Tryz.isAgg3
  have z3 := Tryz.sizeOf3
  rw [run_neq_struct, show (10000 : Nat) = 9999 + 1 from rfl, run_equalIn_agg w 9999 38 _ _ hS hp]
  simp only [Program.fieldsOf, Tryz.underlying38]
  go_simp
theorem neq_rcl (a b c d e f g : Int) (w : World) : (binOp BinOp.neq 70 (.agg #[.int .i64 a, .int .i64 b, .int .i64 c, .int .i64 d, .int .i64 e, .int .i64 f, .int .i64 g]) (.agg #[.int .i64 a, .int .i64 b, .int .i64 c, .int .i64 d, .int .i64 e, .int .i64 f, .int .i64 g])).run Tryz.prog w = .ok (.bool false) w := by
  have hS : Tryz.prog.underlying 70 = some (.struct (Tryz.prog.fieldsOf 70)) := by kernel_rfl
  have hp : Tryz.prog.stoodInHeld 70 = false := by kernel_rfl
  have u3 := Tryz.underlying3
  have a3 := Tryz.isAgg3
  have z3 := Tryz.sizeOf3
  rw [run_neq_struct, show (10000 : Nat) = 9999 + 1 from rfl, run_equalIn_agg w 9999 70 _ _ hS hp]
  simp only [Program.fieldsOf, Tryz.underlying70, Op.eqFields]
  clear hS hp
  go_simp
/-- What is so between two statements: both books are one, both rows of closes are one. -/
def LInv (w : World) (kb kc : Nat) (wx : World) : Prop := ∃ (b : Bk) (v1 v2 cv cq : Value) (cs : List Cl), Four wx w.heap.size w.heap.size (w.heap.size + 2) (w.heap.size + 1) (w.heap.size + 3) v1 v2 cv cq b cs cs (sumC fig0 cs) ∧ Inv b ∧ b.n ≤ kb ∧ cs.length ≤ kc ∧ Below w.heap.size w wx
theorem LInv.more {w wx : World} {kb kc kb' kc' : Nat} (h : LInv w kb kc wx) (h1 : kb ≤ kb') (h2 : kc ≤ kc') : LInv w kb' kc' wx := by
  obtain ⟨b, v1, v2, cv, cq, cs, a, c, d, e, f⟩ := h
  exact ⟨b, v1, v2, cv, cq, cs, a, c, by omega, by omega, f⟩
theorem linv_new (w : World) : LInv w 0 0 ((((w.alloc (.cells #[.slice none 0 0, .int .i64 0, .int .i64 0] 27)).alloc (.cells #[.slice none 0 0] 30)).alloc (.cells #[.slice none 0 0, .int .i64 0, .int .i64 0] 34)).alloc (.cells #[.slice none 0 0, .int .i64 0, .int .i64 0, .int .i64 0, .int .i64 0, .int .i64 0] 40)) := by
  obtain ⟨w1, h1⟩ : ∃ W, W = w.alloc (.cells #[.slice none 0 0, .int .i64 0, .int .i64 0] 27) := ⟨_, rfl⟩
  obtain ⟨w2, h2⟩ : ∃ W, W = w1.alloc (.cells #[.slice none 0 0] 30) := ⟨_, rfl⟩
  obtain ⟨w3, h3⟩ : ∃ W, W = w2.alloc (.cells #[.slice none 0 0, .int .i64 0, .int .i64 0] 34) := ⟨_, rfl⟩
  obtain ⟨w4, h4⟩ : ∃ W, W = w3.alloc (.cells #[.slice none 0 0, .int .i64 0, .int .i64 0, .int .i64 0, .int .i64 0, .int .i64 0] 40) := ⟨_, rfl⟩
  rw [← h1, ← h2, ← h3, ← h4]
  have s1 : w1.heap.size = w.heap.size + 1 := by rw [h1]; simp
  have s2 : w2.heap.size = w.heap.size + 2 := by rw [h2]; simp [s1]
  have s3 : w3.heap.size = w.heap.size + 3 := by rw [h3]; simp [s2]
  have b1 : Below w.heap.size w w1 := by rw [h1]; exact (Below.refl _ _).alloc (Nat.le_refl _) _
  have b2 : Below w1.heap.size w1 w2 := by rw [h2]; exact (Below.refl _ _).alloc (Nat.le_refl _) _
  have b3 : Below w2.heap.size w2 w3 := by rw [h3]; exact (Below.refl _ _).alloc (Nat.le_refl _) _
  have b4 : Below w3.heap.size w3 w4 := by rw [h4]; exact (Below.refl _ _).alloc (Nat.le_refl _) _
  have hB : BookAt w1 w.heap.size w.heap.size (.slice none 0 0) bkZ := by
    rw [h1]
    exact ⟨by simp, by simp [bkZ], by simp [bkZ], by simp, by simp, by simp, World.ownsRow_nil _ _ _ _, by simp [Value.ownBlock], Nat.le_refl _⟩
  have hP : PerAt w2 w.heap.size (w.heap.size + 1) (.slice none 0 0) [] := by rw [h2, ← s1]; exact per_new w1 _ (by omega)
  have hR : RAt w3 w.heap.size (w.heap.size + 2) (.slice none 0 0) bkZ := by
    rw [h3, ← s2]
    exact ⟨by simp, by simp [bkZ], by simp [bkZ], by simp, by simp, by simp, World.ownsRow_nil _ _ _ _, by simp [Value.ownBlock], by omega⟩
  have hQ : RPerAt w4 w.heap.size (w.heap.size + 3) (.slice none 0 0) [] fig0 := by
    rw [h4, ← s3]
    exact ⟨by simp, by simp [fig0], by simp [fig0], by simp [fig0], by simp [fig0], by simp [fig0], fun k => by simp, World.ownsRow_nil _ _ _ _, by simp [Value.ownBlock], by omega⟩
  have hn : ∀ k, (Value.slice none 0 0).ownBlock ≠ some k := fun k => by simp [Value.ownBlock]
  have ap : ∀ a b : Nat, a ≠ b → Apt a (.slice none 0 0) b (.slice none 0 0) := fun a b h => ⟨h, hn _, hn _, fun k hk => absurd hk (hn k)⟩
  refine ⟨bkZ, .slice none 0 0, .slice none 0 0, .slice none 0 0, .slice none 0 0, [], ⟨⟨((hB.below b2).below b3).below b4, hR.below b4, by omega, hn _, hn _, fun k hk => absurd hk (hn k)⟩, (hP.below b3).below b4, hQ, ap _ _ (by omega), ap _ _ (by omega), ap _ _ (by omega), ap _ _ (by omega), ap _ _ (by omega)⟩, inv_zero, by simp [bkZ], Nat.le_refl _, ?_⟩
  exact ((b1.trans (b2.mono (by omega))).trans (b3.mono (by omega))).trans (b4.mono (by omega))
set_option maxRecDepth 100000 in
set_option maxHeartbeats 4000000 in
theorem periodCloses_walk (l : List Ac) (ao : Option Addr) (cap : Nat) (zs : List Int) (az : Option Addr) (cz : Nat) (month n : Int) (w : World) (hg : GlobP w) (h : ActsAt w ao l) (hm : l.length ≤ maxLen) (hz : IntsAt w az zs) (hzm : zs.length ≤ maxLen) :
    Calls Tryz.prog 3 #[.slice ao l.length cap, .slice az zs.length cz, .int .i64 month, .int .i64 n] w fun e w' => e = .returned (.bool true) ∧ Below w.heap.size w w' := by
  have hsm := short_any l ao cap w h hm
  have HG := hidE hg
  have HZ := hidE hz
  have HAT := hidE h
  unfold maxLen at hzm
  clear hg hm hz h
  go_enter Tryz.func3, Tryz.ntmps3
  go_wp2_with fail
  refine hsm.mono ?_
  rintro e w0 ⟨⟨bb, rfl, hbb⟩, hw0⟩
  subst w0
  clear hsm
  cases bb with
  | false =>
    go_wp2
    go_ret
    exact ⟨rfl, Below.refl _ _⟩
  | true =>
    have h140 : l.length ≤ 140 := hbb rfl
    clear hbb
    by_cases hl60 : 60 < l.length
    · have hzz : (60 : Int) < (l.length : Int) := by omega
      go_wp2
      go_ret
      exact ⟨rfl, Below.refl _ _⟩
    have hlz : ¬ (60 : Int) < (l.length : Int) := by omega
    by_cases hz80 : 80 < zs.length
    · have hzz : (80 : Int) < (zs.length : Int) := by omega
      go_wp2
      go_ret
      exact ⟨rfl, Below.refl _ _⟩
    have hzz : ¬ (80 : Int) < (zs.length : Int) := by omega
    have HL0 := hidE (linv_new w)
    obtain ⟨M, hM⟩ : ∃ M : Nat, M = if l.length < zs.length then zs.length else l.length := ⟨_, rfl⟩
    have hMx : (if (zs.length : Int) > (l.length : Int) then (zs.length : Int) else (l.length : Int)) = (M : Int) := by rw [hM]; split <;> split <;> omega
    have hM80 : M ≤ 80 := by rw [hM]; split <;> omega
    have hmax := fun (W : World) (ts : Array TypeId) (t : TypeId) => (show (Builtin.max_ ts t #[.int .i64 (l.length : Int), .int .i64 (zs.length : Int)]).run Tryz.prog W = .ok (.int .i64 (M : Int)) W by rw [run_max_int2, hMx])
    clear hMx hM
    go_wp2_with fail
    go_loopw [13] (fun i wr => ∃ k : Nat, k ≤ M ∧ i = .int .i64 k ∧ Hid (LInv w k k wr)) (fun i _ => M - (intOf i).toNat)
    case atStart => exact ⟨0, Nat.zero_le _, rfl, HL0⟩
    case round =>
      obtain ⟨k, hk, rfl, HL⟩ := hrel
      by_cases hlt : k < M
      · have hkM : (k : Int) < (M : Int) := by omega
        go_upto_region 9 with fail
        go_cut [63] (fun s wx => s = .bool false ∧ Hid (LInv w (k + 1) k wx))
        case first =>
          by_cases hkl : k < l.length
          rotate_left
          · have hkl' : ¬ (k : Int) < (l.length : Int) := by omega
            have HL2 := hidE (HL.out.more (Nat.le_succ k) (Nat.le_refl k))
            go_wp2
            go_meet
            case rel => exact ⟨rfl, HL2⟩
          · have hkl' : (k : Int) < (l.length : Int) := by omega
            obtain ⟨b, v1, v2, cv, cq, cs, hF, hi, hbn, hcl, hB⟩ := HL.out
            obtain ⟨ab, off, rfl, hab, hc⟩ := HAT.out.2 (by omega)
            have hew : EvW l[k].e := HAT.out.1 _ (List.getElem_mem hkl)
            have hbk : BkOk b := hi.ok (by omega)
            obtain ⟨x, hx⟩ : ∃ x, x = l[k] := ⟨_, rfl⟩
            have hcw : ∀ j, j < 9 → wr.cell? ⟨ab, off + k * 9 + j, none⟩ = (acC x)[j]? := fun j hj => by
              rw [hB.cell (p := ⟨ab, off + k * 9 + j, none⟩) hab, hx]; exact hc k hkl j hj
            rw [← hx] at hew
            have hac := acts_any hF.two hbk hB.size (fun W hb => (HG.out.below (hB.trans hb)).et) x hew
            have HST : Hid (∀ b', b' = b ∨ StepA b x b' → Inv b' ∧ b'.n ≤ ((k + 1 : Nat) : Int)) := fun b' hs => by
              rcases hs with rfl | hs
              · exact ⟨hi, by omega⟩
              · exact ⟨inv_step hi hew (by omega) hs, by have := step_n hs; omega⟩
            have HFF := hidE hF
            have HBB := hidE hB
            clear hc hx hbk hF hi hB
            obtain ⟨what, id, ⟨id0, item, kind, qty, price, ofI, day⟩⟩ := x
            have q0 := hcw 0 (by omega)
            have q1 := hcw 1 (by omega)
            have q2 := hcw 2 (by omega)
            have q3 := hcw 3 (by omega)
            have q4 := hcw 4 (by omega)
            have q5 := hcw 5 (by omega)
            have q6 := hcw 6 (by omega)
            have q7 := hcw 7 (by omega)
            have q8 := hcw 8 (by omega)
            simp only [acC, List.getElem?_cons_zero, List.getElem?_cons_succ, Nat.add_zero] at q0 q1 q2 q3 q4 q5 q6 q7 q8
            unfold acV at hac
            simp only at hac
            clear hcw
            go_wp2_with fail
            refine hac.mono ?_
            rintro e w2 ⟨rfl, u1, u2, b2, H2, hst, hb2, hgu⟩
            have HI2 := HST.out b2 hst
            have HL2 : Hid (LInv w (k + 1) k w2) := ⟨b2, u1, u2, cv, cq, cs, HFF.out.acts H2 hgu, HI2.1, HI2.2, hcl, HBB.out.trans hb2⟩
            clear hac q0 q1 q2 q3 q4 q5 q6 q7 q8 H2 hst hb2 hgu HI2
            go_wp2
            go_meet
            case rel => exact ⟨rfl, HL2⟩
        case rest =>
          obtain ⟨rfl, HLA⟩ := hcut
          clear HL
          go_upto_region 11 with fail
          obtain ⟨tt, htt⟩ : ∃ t : Bool, t = (decide (k < zs.length) && decide (zs.getD k 0 ≠ -2)) := ⟨_, rfl⟩
          have HTT := hidE htt
          clear htt
          obtain ⟨wa, hwa⟩ : ∃ W, W = wc := ⟨_, rfl⟩
          rw [← hwa] at HLA ⊢
          clear hwa
          go_cut [74] (fun s wx => s = .bool tt ∧ wx = wa)
          case first =>
            by_cases hkz : k < zs.length
            rotate_left
            · have hkz' : ¬ (k : Int) < (zs.length : Int) := by omega
              have htf : tt = false := by rw [HTT.out, decide_eq_false hkz]; rfl
              subst htf
              go_wp2
              go_meet
              case rel => exact ⟨rfl, rfl⟩
            · have hkz' : (k : Int) < (zs.length : Int) := by omega
              obtain ⟨bz, oz, rfl, hbz, hcz⟩ := HZ.out (by omega)
              obtain ⟨b, v1, v2, cv, cq, cs, hF, hi, hbn, hcl, hB⟩ := HLA.out
              have q := (hB.cell (p := ⟨bz, oz + k, none⟩) hbz).trans (hcz k hkz)
              have HGD : Hid (zs.getD k 0 = zs[k]) := by show _ = _; simp [List.getD, hkz]
              generalize zs[k] = z at q HGD
              clear hF hi hbn hcl hB hcz
              by_cases hz2 : z = -2
              · have htf : tt = false := by rw [HTT.out, HGD.out, hz2]; simp
                subst htf
                subst hz2
                go_wp2
                go_meet
                case rel => exact ⟨rfl, rfl⟩
              · have htf : tt = true := by rw [HTT.out, HGD.out, decide_eq_true hkz]; simp [hz2]
                have hz2' : (z == -2) = false := by simpa using hz2
                subst htf
                have hz3 : (z != -2) = true := by simpa using hz2
                go_wp2
                go_meet
                case rel => exact ⟨by first | rfl | rw [hz3], rfl⟩
          case rest =>
            obtain ⟨rfl, hwx⟩ := hcut
            subst hwx
            go_upto_if 74 with fail
            go_cut [14, 15, 16, 17] (fun _ _ _ _ wx => Hid (LInv w (k + 1) (k + 1) wx))
            case first =>
              cases tt with
              | false =>
                have HL2 := hidE (HLA.out.more (Nat.le_refl _) (Nat.le_succ k))
                go_wp2
                go_meet
                case rel => exact HL2
              | true =>
                have hkz : k < zs.length := by
                  have h := HTT.out
                  simp at h
                  exact h.1
                obtain ⟨bz, oz, rfl, hbz, hcz⟩ := HZ.out (by omega)
                obtain ⟨b, v1, v2, cv, cq, cs, hF, hi, hbn, hcl, hB⟩ := HLA.out
                have q := (hB.cell (p := ⟨bz, oz + k, none⟩) hbz).trans (hcz k hkz)
                generalize zs[k] = z at q
                have hrc := rclose_any hF.rper hF.two.ref hi (HG.out.below hB).tab (by omega) z
                have HF1 := hidE hF
                have HB1 := hidE hB
                have HI := hidE hi
                clear hF hi hB hcz HLA HTT
                go_wp2_with fail
                refine hrc.mono ?_
                rintro r w2 ⟨F, c, ds', cq', T', rfl, hd, hRP, hTu, hfr⟩
                have hF2 := HF1.out.rclose hRP hTu hfr
                have hB2 : Below w.heap.size w w2 := below_at HB1.out hTu HB1.out.size (by omega) (fun k hk => (HF1.out.rper.own.lt k hk).1)
                clear hrc hRP hTu hfr HF1
                obtain ⟨F1, F2, F3, F4, F5⟩ := F
                unfold figV
                simp only
                obtain ⟨W3, hW3⟩ : ∃ W, W = w2.alloc (.cells #[.int .i64 F1, .int .i64 F2, .int .i64 F3, .int .i64 F4, .int .i64 F5] 38) := ⟨_, rfl⟩
                have hb3 : Below w2.heap.size w2 W3 := by rw [hW3]; exact (Below.refl _ _).alloc (Nat.le_refl _) _
                have hF3 := hF2.below hb3
                have hB3 : Below w.heap.size w W3 := hB2.trans (hb3.mono hB2.size)
                have f0 : W3.cell? ⟨w2.heap.size, 0, none⟩ = some (.int .i64 F1) := by rw [hW3]; simp
                have f1 : W3.cell? ⟨w2.heap.size, 1, none⟩ = some (.int .i64 F2) := by rw [hW3]; simp
                have f2 : W3.cell? ⟨w2.heap.size, 2, none⟩ = some (.int .i64 F3) := by rw [hW3]; simp
                have f3 : W3.cell? ⟨w2.heap.size, 3, none⟩ = some (.int .i64 F4) := by rw [hW3]; simp
                have f4 : W3.cell? ⟨w2.heap.size, 4, none⟩ = some (.int .i64 F5) := by rw [hW3]; simp
                have q3 : W3.cell? ⟨bz, oz + k, none⟩ = some (.int .i64 z) := (hB3.cell (p := ⟨bz, oz + k, none⟩) hbz).trans ((HB1.out.cell (p := ⟨bz, oz + k, none⟩) hbz).symm.trans q)
                have hppl : w.heap.size + 1 < w2.heap.size := hF2.per.lt
                have HCVL : Hid (∀ k, cv.ownBlock = some k → k < w2.heap.size) := fun k hk => (hF2.per.own.lt k hk).2
                have hcc := close_any hF3.per hF3.two.book HI.out (HG.out.below hB3).len (by omega) z
                have HW3 := hidE hW3
                have HF3 := hidE hF3
                have HB3 := hidE hB3
                have HD := hidE hd
                have HFC := hidE (And.intro f0 (And.intro f1 (And.intro f2 (And.intro f3 f4))))
                have h23 : w2.heap.size < W3.heap.size := World.block_lt_of_cell? _ _ f0
                rw [hW3] at q3
                clear hW3 hb3 hF2 hB2 hF3 hB3 hd f0 f1 f2 f3 f4 q
                go_wp2_with fail
                rw [← HW3.out]
                refine hcc.mono ?_
                rintro r w4 ⟨F', c', cs', cv', rfl, hd', hP, hTu, hfr⟩
                obtain ⟨rfl, rfl, rfl, rfl⟩ := does_same hd' HD.out
                have hF4 := HF3.out.close hP hTu hfr
                have hB4 : Below w.heap.size w w4 := below_at HB3.out hTu HB3.out.size (by omega) (fun k hk => (HF3.out.per.own.lt k hk).1)
                have hbl : w4.heap[w2.heap.size]? = W3.heap[w2.heap.size]? := hTu.block _ h23 (by omega) (fun e => by have := HCVL.out _ e; omega)
                have hs34 := hTu.size
                obtain ⟨f0, f1, f2, f3, f4⟩ := HFC.out
                obtain ⟨W5, hW5⟩ : ∃ W, W = w4.alloc (.cells #[.int .i64 F1, .int .i64 F2, .int .i64 F3, .int .i64 F4, .int .i64 F5] 38) := ⟨_, rfl⟩
                have hb5 : Below w4.heap.size w4 W5 := by rw [hW5]; exact (Below.refl _ _).alloc (Nat.le_refl _) _
                have c45 : ∀ (j : Nat) (x : Value), W3.cell? ⟨w2.heap.size, j, none⟩ = some x → W5.cell? ⟨w2.heap.size, j, none⟩ = some x := fun j x hx => below_cell hb5 ((World.cell?_of_block (a := ⟨w2.heap.size, j, none⟩) hbl).trans hx)
                have f0' := c45 _ _ f0
                have f1' := c45 _ _ f1
                have f2' := c45 _ _ f2
                have f3' := c45 _ _ f3
                have f4' := c45 _ _ f4
                have g0 : W5.cell? ⟨w4.heap.size, 0, none⟩ = some (.int .i64 F1) := by rw [hW5]; simp
                have g1 : W5.cell? ⟨w4.heap.size, 1, none⟩ = some (.int .i64 F2) := by rw [hW5]; simp
                have g2 : W5.cell? ⟨w4.heap.size, 2, none⟩ = some (.int .i64 F3) := by rw [hW5]; simp
                have g3 : W5.cell? ⟨w4.heap.size, 3, none⟩ = some (.int .i64 F4) := by rw [hW5]; simp
                have g4 : W5.cell? ⟨w4.heap.size, 4, none⟩ = some (.int .i64 F5) := by rw [hW5]; simp
                have hB5 : Below w.heap.size w W5 := hB4.trans (hb5.mono hB4.size)
                have hbr := bare_any c' W5 (HG.out.below hB5).et
                have hcl' : cs'.length ≤ k + 1 := by
                  rcases hd' with ⟨_, _, _, e⟩ | ⟨_, _, _, _, e⟩ | ⟨_, _, _, _, _, e⟩ | ⟨_, _, _, _, _, e⟩
                  · rw [e]; omega
                  · rw [e]; omega
                  · rw [e]; omega
                  · rw [e, List.length_append]; simp; omega
                have HL5 : Hid (LInv w (k + 1) (k + 1) W5) := ⟨b, v1, v2, cv', cq', cs', hF4.below hb5, HI.out, hbn, hcl', hB5⟩
                have HFG := hidE (And.intro f0' (And.intro f1' (And.intro f2' (And.intro f3' (And.intro f4' (And.intro g0 (And.intro g1 (And.intro g2 (And.intro g3 g4)))))))))
                have HW5 := hidE hW5
                have hne := neq_fig F1 F2 F3 F4 F5
                obtain ⟨ev, hev⟩ : ∃ ev, ev = errV c' := ⟨_, rfl⟩
                rw [← hev] at hbr ⊢
                unfold figV
                simp only
                clear hcc hd' hP hTu hfr hF4 hB4 hbl f0 f1 f2 f3 f4 hb5 c45 f0' f1' f2' f3' f4' g0 g1 g2 g3 g4 hB5 hW5 hev q3
                go_wp2_with fail
                rw [← HW5.out]
                refine hbr.mono ?_
                rintro r W6 ⟨rfl, hb6⟩
                obtain ⟨f0, f1, f2, f3, f4, g0, g1, g2, g3, g4⟩ := HFG.out
                have f0' := below_cell hb6 f0
                have f1' := below_cell hb6 f1
                have f2' := below_cell hb6 f2
                have f3' := below_cell hb6 f3
                have f4' := below_cell hb6 f4
                have g0' := below_cell hb6 g0
                have g1' := below_cell hb6 g1
                have g2' := below_cell hb6 g2
                have g3' := below_cell hb6 g3
                have g4' := below_cell hb6 g4
                have HL6 : Hid (LInv w (k + 1) (k + 1) W6) := by
                  obtain ⟨b, v1, v2, cv, cq, cs, a, c, d, e, f⟩ := HL5.out
                  exact ⟨b, v1, v2, cv, cq, cs, a.below hb6, c, d, e, f.trans (hb6.mono f.size)⟩
                clear f0 f1 f2 f3 f4 g0 g1 g2 g3 g4 hbr hb6
                go_wp2_with fail
                go_meet
                case rel => exact HL6
            case rest =>
              have HLB := hidE hcut.out
              clear hcut HLA
              by_cases h8 : k % 8 = 0
              rotate_left
              · have h8' : ((k : Int).tmod 8 == 0) = false := by
                  rw [Int.tmod_eq_emod_of_nonneg (by omega)]
                  simp
                  omega
                go_wp2
                go_roundw
                case rel => exact ⟨k + 1, by omega, by go_num, HLB⟩
                case measure => simp [intOf]; omega
              · have h8' : ((k : Int).tmod 8 == 0) = true := by
                  rw [Int.tmod_eq_emod_of_nonneg (by omega)]
                  simp
                  omega
                obtain ⟨b, v1, v2, cv, cq, cs, hF, hi, hbn, hcl, hB⟩ := HLB.out
                have hop := open_any hF.per hF.two.book hi (HG.out.below hB).len (by omega)
                obtain ⟨O, hO⟩ : ∃ O, O = unp (untl (srt (asOf b b.n)) 3300) cs := ⟨_, rfl⟩
                rw [← hO] at hop
                have hO2 : (untl (srt (asOf b b.n)) 3300).minus (sumC fig0 cs) = O := by rw [hO, unp_is cs (untl_ok _ _)]
                obtain ⟨O1, O2, O3, O4, O5⟩ := O
                unfold figV at hop
                simp only at hop
                have HF1 := hidE hF
                have HB1 := hidE hB
                have HI := hidE hi
                clear hF hi hB hO HLB
                go_wp2_with fail
                refine hop.mono ?_
                rintro r w2 ⟨rfl, hb2⟩
                have hB2 : Below w.heap.size w w2 := HB1.out.trans (hb2.mono HB1.out.size)
                have hF2 := HF1.out.below hb2
                have hro := ropen_any hF2.rper hF2.two.ref HI.out (HG.out.below hB2).tab
                rw [hO2] at hro
                unfold figV at hro
                simp only at hro
                have HF2 := hidE hF2
                have HB2 := hidE hB2
                have hne := neq_fig O1 O2 O3 O4 O5
                clear hop hb2 hF2 hB2 HF1 HB1 hO2
                go_wp2_with fail
                refine hro.mono ?_
                rintro r w3 ⟨rfl, hb3⟩
                have HL3 : Hid (LInv w (k + 1) (k + 1) w3) := ⟨b, v1, v2, cv, cq, cs, HF2.out.below hb3, HI.out, hbn, hcl, HB2.out.trans (hb3.mono HB2.out.size)⟩
                clear hro hb3 HF2 HB2
                go_wp2
                go_roundw
                case rel => exact ⟨k + 1, by omega, by go_num, HL3⟩
                case measure => simp [intOf]; omega
      · obtain rfl : k = M := by omega
        have hkM : ¬ (k : Int) < (k : Int) := by omega
        obtain ⟨b, v1, v2, cv, cq, cs, hF, hi, hbn, hcl, hB⟩ := HL.out
        have hrn := rnow_any hF.two.ref hi (-1) (.inr (by decide))
        obtain ⟨es, hes⟩ : ∃ l, l = srt (asOf b b.n) := ⟨_, rfl⟩
        rw [← hes] at hrn
        have HEW : Hid ((∀ e ∈ es, EvW e) ∧ (∀ e ∈ es, Rt e) ∧ es.length ≤ 200 ∧ (es.map (·.id)).Nodup) := by rw [hes]; exact ⟨(now_ok hi).2.1, now_rt hi, (now_small hi).1, (now_ok hi).1⟩
        have HES := hidE hes
        have HF1 := hidE hF
        have HB1 := hidE hB
        have HI := hidE hi
        clear hF hi hB HL hes
        go_wp2_with fail
        refine hrn.mono ?_
        rintro r w2 ⟨x2, rfl, hown2, hb2⟩
        clear hrn
        obtain ⟨ad2, cp2, hv2⟩ := own_lenN hown2
        subst hv2
        have hB2 : Below w.heap.size w w2 := HB1.out.trans (hb2.mono HB1.out.size)
        have hrm := rmonths_any es ad2 cp2 w2 (evsC_of hown2) HEW.out.1 HEW.out.2.1 HEW.out.2.2.1 (HG.out.below hB2).tab
        have hF2 := HF1.out.below hb2
        have HF2 := hidE hF2
        have HB2 := hidE hB2
        clear hown2 hb2 hB2 hF2 HF1 HB1
        go_wp2_with fail
        refine hrm.mono ?_
        rintro r w3 ⟨mb, nm, D, rfl, hfm, hmb, hnm, hb3⟩
        clear hrm
        have hB3 : Below w.heap.size w w3 := HB2.out.trans (hb3.mono HB2.out.size)
        have hF3 := HF2.out.below hb3
        have hbn1 := as_any hF3.two.book (now_small HI.out).2 (-1)
        have e1 : tOf b (-1) = b.n := by unfold tOf; rw [if_pos (by decide)]
        rw [e1, ← HES.out] at hbn1
        have HF3 := hidE hF3
        have HB3 := hidE hB3
        have HFM3 := hidE hfm
        clear hb3 hB3 hF3 HF2 HB2 hfm e1
        go_wp2_with fail
        refine hbn1.mono ?_
        rintro r w4 ⟨x4, rfl, hown4, hb4⟩
        clear hbn1
        obtain ⟨ad4, cp4, hv4⟩ := own_lenN hown4
        subst hv4
        have hB4 : Below w.heap.size w w4 := HB3.out.trans (hb4.mono HB3.out.size)
        have hpm := months_any es _ w4 (EvsAt.of_own hown4) HEW.out.1 (by have := HEW.out.2.2.1; omega) HEW.out.2.2.2 (HG.out.below hB4).len
        have HF4 := hidE (HF3.out.below hb4)
        have HFM4 := hidE (HFM3.out.below hb4)
        have HB4 := hidE hB4
        clear hb4 hB4 HF3 HB3 HFM3 hown4
        go_wp2_with fail
        refine hpm.mono ?_
        rintro r w5 ⟨x5, rfl, hown5, hb5⟩
        clear hpm
        obtain ⟨ad5, cp5, hv5⟩ := own_lenN hown5
        subst hv5
        have HF5 := hidE (HF4.out.below hb5)
        have HFM5 := hidE (HFM4.out.below hb5)
        have HB5 : Hid (Below w.heap.size w w5) := HB4.out.trans (hb5.mono HB4.out.size)
        have HOW5 := hidE hown5
        clear hb5 HF4 HB4 HFM4 hown5
        have hml := mons_len es
        have hsz := fmap_size HFM5.out (mons_asc es)
        have hlen := fun ty : TypeId => HFM5.out.map.len (t := 57) Tryz.underlying57 ty
        rw [hsz] at hlen
        have hel := HEW.out.2.2.1
        obtain ⟨ms, hms⟩ : ∃ m, m = mons es := ⟨_, rfl⟩
        have HMS := hidE hms
        rw [← hms] at hlen HOW5 hml ⊢
        have HASC : Hid (Asc ms 3285) := by rw [hms]; exact mons_asc es
        rw [← hms] at HFM5
        clear hsz hms
        have hbn1 := as_any HF5.out.two.book (now_small HI.out).2 (-1)
        have e1 : tOf b (-1) = b.n := by unfold tOf; rw [if_pos (by decide)]
        rw [e1, ← HES.out] at hbn1
        clear e1
        go_wp2_with fail
        refine hbn1.mono ?_
        rintro r w6 ⟨x6, rfl, hown6, hb6⟩
        clear hbn1
        obtain ⟨ad6, cp6, hv6⟩ := own_lenN hown6
        subst hv6
        have hB6 : Below w.heap.size w w6 := HB5.out.trans (hb6.mono HB5.out.size)
        have hpu := until_any es _ month w6 (EvsAt.of_own hown6) HEW.out.1 (by omega) HEW.out.2.2.2 (HG.out.below hB6).len
        obtain ⟨U, hU⟩ : ∃ U, U = untl es month := ⟨_, rfl⟩
        have HU := hidE hU
        rw [← hU] at hpu
        clear hU hB6 hown6
        obtain ⟨U1, U2, U3, U4, U5⟩ := U
        unfold figV at hpu
        simp only at hpu
        have HF6 := hidE (HF5.out.below hb6)
        have HFM6 := hidE (HFM5.out.below hb6)
        have HOW6 := hidE (own_below HOW5.out hb6 (Nat.le_refl _))
        have HB6 : Hid (Below w.heap.size w w6) := HB5.out.trans (hb6.mono HB5.out.size)
        clear hb6 HF5 HFM5 HOW5 HB5
        go_wp2_with fail
        refine hpu.mono ?_
        rintro r w7 ⟨rfl, hb7⟩
        clear hpu
        have HF7 := hidE (HF6.out.below hb7)
        have HFM7 := hidE (HFM6.out.below hb7)
        have HOW7 := hidE (own_below HOW6.out hb7 (Nat.le_refl _))
        have HB7 : Hid (Below w.heap.size w w7) := HB6.out.trans (hb7.mono HB6.out.size)
        clear hb7 HF6 HFM6 HOW6 HB6
        have hrn := rnow_any HF7.out.two.ref HI.out (-1) (.inr (by decide))
        rw [← HES.out] at hrn
        go_wp2_with fail
        refine hrn.mono ?_
        rintro r w8 ⟨x8, rfl, hown8, hb8⟩
        clear hrn
        obtain ⟨ad8, cp8, hv8⟩ := own_lenN hown8
        subst hv8
        have hB8 : Below w.heap.size w w8 := HB7.out.trans (hb8.mono HB7.out.size)
        have hru := runtil_any es ad8 cp8 month w8 (evsC_of hown8) HEW.out.1 HEW.out.2.1 HEW.out.2.2.1 (HG.out.below hB8).tab
        rw [← HU.out] at hru
        unfold figV at hru
        simp only at hru
        clear hB8 hown8
        have HF8 := hidE (HF7.out.below hb8)
        have HFM8 := hidE (HFM7.out.below hb8)
        have HOW8 := hidE (own_below HOW7.out hb8 (Nat.le_refl _))
        have HB8 : Hid (Below w.heap.size w w8) := HB7.out.trans (hb8.mono HB7.out.size)
        clear hb8 HF7 HFM7 HOW7 HB7
        have hne := neq_fig U1 U2 U3 U4 U5
        go_wp2_with fail
        refine hru.mono ?_
        rintro r w9 ⟨rfl, hb9⟩
        clear hru
        have HF9 := hidE (HF8.out.below hb9)
        have HFM9 := hidE (HFM8.out.below hb9)
        have HOW9 := hidE (own_below HOW8.out hb9 (Nat.le_refl _))
        have HB9 : Hid (Below w.heap.size w w9) := HB8.out.trans (hb9.mono HB8.out.size)
        clear hb9 HF8 HFM8 HOW8 HB8
        have hop := open_any HF9.out.per HF9.out.two.book HI.out (HG.out.below HB9.out).len (by omega)
        obtain ⟨O, hO⟩ : ∃ O, O = unp (untl (srt (asOf b b.n)) 3300) cs := ⟨_, rfl⟩
        rw [← hO] at hop
        have HO2 : Hid ((untl (srt (asOf b b.n)) 3300).minus (sumC fig0 cs) = O) := by show _ = _; rw [hO, unp_is cs (untl_ok _ _)]
        obtain ⟨O1, O2, O3, O4, O5⟩ := O
        unfold figV at hop
        simp only at hop
        clear hO
        go_wp2_with fail
        refine hop.mono ?_
        rintro r w10 ⟨rfl, hb10⟩
        clear hop
        have HF10 := hidE (HF9.out.below hb10)
        have HFM10 := hidE (HFM9.out.below hb10)
        have HOW10 := hidE (own_below HOW9.out hb10 (Nat.le_refl _))
        have HB10 : Hid (Below w.heap.size w w10) := HB9.out.trans (hb10.mono HB9.out.size)
        clear hb10 HF9 HFM9 HOW9 HB9
        have hro := ropen_any HF10.out.rper HF10.out.two.ref HI.out (HG.out.below HB10.out).tab
        rw [HO2.out] at hro
        unfold figV at hro
        simp only at hro
        have hne2 := neq_fig O1 O2 O3 O4 O5
        go_wp2_with fail
        refine hro.mono ?_
        rintro r w11 ⟨rfl, hb11⟩
        clear hro
        have HF11 := hidE (HF10.out.below hb11)
        have HFM11 := hidE (HFM10.out.below hb11)
        have HOW11 := hidE (own_below HOW10.out hb11 (Nat.le_refl _))
        have HB11 : Hid (Below w.heap.size w w11) := HB10.out.trans (hb11.mono HB10.out.size)
        clear hb11 HF10 HFM10 HOW10 HB10
        have hpl := plate_any HF11.out.per (HG.out.below HB11.out).len (by omega) n
        go_wp2_with fail
        refine hpl.mono ?_
        rintro r w12 ⟨rfl, hb12⟩
        clear hpl
        have HF12 := hidE (HF11.out.below hb12)
        have HFM12 := hidE (HFM11.out.below hb12)
        have HOW12 := hidE (own_below HOW11.out hb12 (Nat.le_refl _))
        have HB12 : Hid (Below w.heap.size w w12) := HB11.out.trans (hb12.mono HB11.out.size)
        clear hb12 HF11 HFM11 HOW11 HB11
        have hrl := rlate_any HF12.out.rper (by omega) n
        obtain ⟨lt, hlt2⟩ : ∃ t, t = lateD cs n := ⟨_, rfl⟩
        rw [← hlt2] at hrl
        rw [← hlt2]
        clear hlt2
        go_wp2_with fail
        refine hrl.mono ?_
        rintro r w13 ⟨rfl, hb13⟩
        clear hrl
        have HF13 := hidE (HF12.out.below hb13)
        have HFM13 := hidE (HFM12.out.below hb13)
        have HOW13 := hidE (own_below HOW12.out hb13 (Nat.le_refl _))
        have HB13 : Hid (Below w.heap.size w w13) := HB12.out.trans (hb13.mono HB12.out.size)
        clear hb13 HF12 HFM12 HOW12 HB12
        have hbb : (lt == lt) = true := by simp
        clear hlen hne hne2
        go_wp2_with fail
        go_loopw [20] (fun i wq => ∃ j : Nat, j ≤ ms.length ∧ i = .int .i64 j ∧ Hid (Below w13.heap.size w13 wq)) (fun i _ => ms.length - (intOf i).toNat)
        case atStart => exact ⟨0, Nat.zero_le _, rfl, Below.refl _ _⟩
        case round =>
          obtain ⟨j, hj, rfl, HBQ⟩ := hrel
          by_cases hlt3 : j < ms.length
          · rcases own_form HOW13.out with ⟨_, a2, _⟩ | ⟨g, cp, e1, hg1, hg2, _⟩
            · omega
            simp only [Value.slice.injEq] at e1
            obtain ⟨rfl, _, rfl⟩ := e1
            have hcw : ∀ t, t < 6 → wr.cell? ⟨g, j * 6 + t, none⟩ = (monC ms[j])[t]? := fun t ht => by
              rw [HBQ.out.cell (p := ⟨g, j * 6 + t, none⟩) hg2, (own_cell monC_len HOW13.out j t hlt3 ht).1]
            have hbd := HASC.out.bd ms[j] (List.getElem_mem hlt3)
            have hfa := fAt_mem HASC.out.row (List.getElem_mem hlt3)
            have hin : inM (ms[j]).n ms := ⟨_, List.getElem_mem hlt3, rfl⟩
            have hpv : ∀ hp : 0 < j, (wr.cell? ⟨g, (j - 1) * 6 + 0, none⟩ = some (.int .i64 (ms[j - 1]'(by omega)).n)) ∧ (ms[j - 1]'(by omega)).n < (ms[j]).n := fun hp => by
              refine ⟨?_, List.pairwise_iff_getElem.1 HASC.out.row (j - 1) j (by omega) hlt3 (by omega)⟩
              rw [HBQ.out.cell (p := ⟨g, (j - 1) * 6 + 0, none⟩) hg2, (own_cell monC_len HOW13.out (j - 1) 0 (by omega) (by decide)).1]
              rfl
            have HFQ := hidE (HFM13.out.below HBQ.out)
            generalize ms[j] = x at hcw hbd hfa hin hpv
            obtain ⟨xn, x1, x2, x3, x4, x5⟩ := x
            have q0 := hcw 0 (by omega)
            have q1 := hcw 1 (by omega)
            have q2 := hcw 2 (by omega)
            have q3 := hcw 3 (by omega)
            have q4 := hcw 4 (by omega)
            have q5 := hcw 5 (by omega)
            simp only [monC, figC, List.getElem?_cons_zero, List.getElem?_cons_succ, Nat.add_zero] at q0 q1 q2 q3 q4 q5
            simp only at hbd hfa hin hpv
            have hlk := HFQ.out.lookOk xn (wf_ofR (by omega) (by omega)) hin
            rw [hfa] at hlk
            unfold figV at hlk
            simp only at hlk
            have hne := neq_fig x1 x2 x3 x4 x5
            have hgw : g < wr.heap.size := Nat.lt_of_lt_of_le hg2 HBQ.out.size
            have hgn : g ≠ wr.heap.size := by omega
            have HB2 : Hid (∀ m, Below w13.heap.size w13 ((wr.alloc (.cells #[.int .i64 x1, .int .i64 x2, .int .i64 x3, .int .i64 x4, .int .i64 x5] 38)).drewN m)) := fun m => (HBQ.out.alloc HBQ.out.size _).trans ((drew_same _ m).mono (by simp; exact Nat.le_succ_of_le HBQ.out.size))
            have mixed : Tryz.prog.follows .mixedOrders = true := by kernel_rfl
            clear hcw hfa hin
            by_cases hj0 : j = 0
            · subst hj0
              clear hpv
              go_wp2_with fail
              go_quiet (fail)
              go_wp2
              go_roundw
              case rel => exact ⟨1, by omega, by go_num, HB2.out _⟩
              case measure => simp [intOf]; omega
            · obtain ⟨hpc, hpn⟩ := hpv (by omega)
              generalize (ms[j - 1]'(by omega)).n = pn at hpc hpn
              obtain ⟨jm, hjm⟩ : ∃ jm : Nat, j = jm + 1 := ⟨j - 1, by omega⟩
              subst hjm
              rw [Nat.add_sub_cancel, Nat.add_zero] at hpc
              have hjp : (0 : Int) < (jm : Int) + 1 := by omega
              have hge : ¬ xn ≤ pn := by omega
              have hge2 : decide (xn ≤ pn) = false := decide_eq_false hge
              have hja : ((jm : Int) + 1 - 1) = (jm : Int) := by omega
              clear hpv
              go_wp2_with fail
              go_quiet (fail)
              go_wp2
              go_roundw
              case rel => exact ⟨jm + 1 + 1, by omega, by go_num, HB2.out _⟩
              case measure => simp [intOf]; omega
          · obtain rfl : j = ms.length := by omega
            have HB14 : Hid (Below w.heap.size w wr) := HB13.out.trans (HBQ.out.mono HB13.out.size)
            have HF14 := hidE (HF13.out.below HBQ.out)
            have hcd := closed_any HF14.out.per (by omega)
            clear HF13 HFM13 HOW13 HB13 HBQ
            go_wp2_with fail
            refine hcd.mono ?_
            rintro r w15 ⟨x15, rfl, hown15, hb15⟩
            clear hcd
            obtain ⟨ad15, cp15, hv15⟩ := own_lenN hown15
            subst hv15
            have HF15 := hidE (HF14.out.below hb15)
            have HB15 : Hid (Below w.heap.size w w15) := HB14.out.trans (hb15.mono HB14.out.size)
            have HC15 := hidE hown15
            have pc := HF15.out.rper.c0
            obtain ⟨adq, cpq, hvq⟩ := own_lenN HF15.out.rper.own
            subst hvq
            clear hown15 hb15 HF14 HB14
            go_wp2_with fail
            go_loopw [24] (fun i wq => ∃ j : Nat, j ≤ cs.length ∧ i = .int .i64 j ∧ ∃ m, wq = w15.drewN m) (fun i _ => cs.length - (intOf i).toNat)
            case atStart => exact ⟨0, Nat.zero_le _, rfl, 0, rfl⟩
            case round =>
              obtain ⟨j, hj, rfl, m0, hwq⟩ := hrel
              have HWQ := hidE hwq
              have hbq : Below w15.heap.size w15 wr := by rw [hwq]; exact drew_same _ _
              clear hwq
              by_cases hlt4 : j < cs.length
              · have hA := own_below HC15.out hbq (Nat.le_refl _)
                have hBq := own_below HF15.out.rper.own hbq (Nat.le_refl _)
                have pc2 := below_cell hbq pc
                rcases own_form hA with ⟨_, h0, _⟩ | ⟨g1, q1, e1, _, _, _⟩
                · omega
                rcases own_form hBq with ⟨_, h0, _⟩ | ⟨g2, q2, e2, _, _, _⟩
                · omega
                simp only [Value.slice.injEq] at e1 e2
                obtain ⟨rfl, _, rfl⟩ := e1
                obtain ⟨rfl, _, rfl⟩ := e2
                have ca : ∀ t, t < 7 → wr.cell? ⟨g1, j * 7 + t, none⟩ = (clC cs[j])[t]? := fun t ht => (own_cell clC_len hA j t hlt4 ht).1
                have cb : ∀ t, t < 7 → wr.cell? ⟨g2, j * 7 + t, none⟩ = (clC cs[j])[t]? := fun t ht => (own_cell clC_len hBq j t hlt4 ht).1
                generalize cs[j] = x at ca cb
                obtain ⟨mo, tu, x1, x2, x3, x4, x5⟩ := x
                have a0 := ca 0 (by omega)
                have a1 := ca 1 (by omega)
                have a2 := ca 2 (by omega)
                have a3 := ca 3 (by omega)
                have a4 := ca 4 (by omega)
                have a5 := ca 5 (by omega)
                have a6 := ca 6 (by omega)
                have b0 := cb 0 (by omega)
                have b1 := cb 1 (by omega)
                have b2 := cb 2 (by omega)
                have b3 := cb 3 (by omega)
                have b4 := cb 4 (by omega)
                have b5 := cb 5 (by omega)
                have b6 := cb 6 (by omega)
                simp only [clC, figC, List.getElem?_cons_zero, List.getElem?_cons_succ, Nat.add_zero] at a0 a1 a2 a3 a4 a5 a6 b0 b1 b2 b3 b4 b5 b6
                have hne := neq_rcl mo tu x1 x2 x3 x4 x5
                have mixed : Tryz.prog.follows .mixedOrders = true := by kernel_rfl
                clear ca cb hA hBq pc
                go_wp2_with fail
                go_quiet (fail)
                go_wp2
                go_roundw
                case rel => exact ⟨j + 1, by omega, by go_num, m0 + nq, by rw [HWQ.out, World.drewN_drewN]⟩
                case measure => simp [intOf]; omega
              · obtain rfl : j = cs.length := by omega
                have HBE : Hid (Below w.heap.size w wr) := HB15.out.trans (hbq.mono HB15.out.size)
                clear hbq
                go_wp2
                go_ret
                exact ⟨rfl, HBE.out⟩
end Go.Proofs.YtcfgacdcgljbaaaGreatDoor
