/- The walk of tallymankeep.BookPast. -/
import Derived.Test.YtihkeblhidflpaaDoorPastMem
import Derived.Test.YtihkeblhidflpaaDoorKeepSmall
import Derived.Test.YtihkeblhidflpaaDoorKeepBooked
namespace Go.Proofs.YtihkeblhidflpaaDoor
open Go.RowKit
set_option maxRecDepth 20000 in
set_option maxHeartbeats 16000000 in
theorem past_walk (l : List Ac) (ao : Option Addr) (cap : Nat) (w : World) (hg : ErrType w) (h : ActsAt w ao l) (hm : l.length ≤ maxLen) :
    Calls Tryd.prog 3 #[.slice ao l.length cap] w fun e w' => e = .returned (.bool true) ∧ Below w.heap.size w w' := by
  obtain ⟨i0, hi, hz0, hz1, hz2⟩ := info_parts Tryd.infoSl
  have hsm := small_any l ao cap w h hm
  have hbk := booked_any w hg
  clear hg hm
  go_enter Tryd.func3, Tryd.ntmps3
  go_wp2_with fail
  refine hsm.mono ?_
  rintro e w0 ⟨⟨bb, rfl, hbb⟩, rfl⟩
  clear hsm
  cases bb with
  | false =>
    clear hbk
    go_wp2
    go_ret
    exact ⟨rfl, Below.refl _ _⟩
  | true =>
    have h40 : l.length ≤ 40 := hbb rfl
    clear hbb
    go_wp2_with fail
    refine hbk.mono ?_
    rintro e w1 ⟨rfl, hb1⟩
    clear hbk
    have HA : ActsAt w1 ao l := h.below hb1 (Nat.le_refl _)
    have HBW : Hid (Below w0.heap.size w0 w1) := hb1
    clear hb1 h
    have hP0 : PastAt ((w1.alloc (.cells #[.slice none 0 0, .int .i64 0, .int .i64 0] 27)).alloc (.cells #[.slice none 0 0] 37)) w1.heap.size w1.heap.size (.slice none 0 0) (.slice (some ⟨w1.heap.size + 1, 0, none⟩) 1 1) bk0 [.slice none 0 0] := by
      refine ⟨(book_new w1 w1.heap.size (Nat.le_refl _)).below ((Below.refl _ _).alloc (Nat.le_refl _) _), ?_, fun t ht => ?_, by simp [Value.ownBlock], fun g hg => (by cases hg), fun v hv => ?_, fun v hv g hg => (by cases hg), fun v hv g hg => ?_⟩
      · refine ⟨rfl, Or.inr ⟨w1.heap.size + 1, 1, #[.slice none 0 0], rfl, Nat.le_succ _, ?_, Nat.le_refl _, by decide, rfl, rfl⟩⟩
        have := heap_alloc_new (w1.alloc (.cells #[.slice none 0 0, .int .i64 0, .int .i64 0] 27)) (.cells #[.slice none 0 0] 37)
        simpa using this
      · have e : t = 0 := by simp at ht; omega
        subst e
        rw [show asOf bk0 ((0 : Nat) : Int) = [] from rfl, srt_nil]
        exact World.ownsRow_nil _ _ _ _
      · rw [List.mem_singleton.1 hv]; simp [Value.ownBlock]
      · rw [List.mem_singleton.1 hv]; simp [Value.ownBlock]
    have HP0 : Hid (PastAt _ _ _ _ _ _ _) := hP0
    clear hP0
    go_wp2
    go_loopw [4, 5] (fun pv i wr => ∃ (k : Nat) (b : Bk) (sv : Value) (ps : List Value), k ≤ l.length ∧ i = .int .i64 k ∧ Hid (PastAt wr w1.heap.size w1.heap.size sv pv b ps) ∧ Hid (Inv b) ∧ Hid (b.n ≤ k ∧ (ps.length : Int) = b.n + 1) ∧ Hid (Below w1.heap.size w1 wr))
      (fun _ i _ => l.length - (intOf i).toNat)
    case atStart => exact ⟨0, bk0, .slice none 0 0, [.slice none 0 0], Nat.zero_le _, rfl, HP0, inv_zero, ⟨Int.le_refl _, rfl⟩, ((Below.refl _ _).alloc (Nat.le_refl _) _).alloc (by simp) _⟩
    case round =>
      obtain ⟨k, b, sv, ps, hk, rfl, HP, HI, HN, HB⟩ := hrel
      by_cases hlt : k < l.length
      · obtain ⟨ab, off, rfl, hab, hc⟩ := HA.2 (by omega)
        have hcw : ∀ j, j < 9 → wr.cell? ⟨ab, off + k * 9 + j, none⟩ = (acC l[k])[j]? := fun j hj => by
          rw [HB.out.cell (p := ⟨ab, off + k * 9 + j, none⟩) hab]; exact hc k hlt j hj
        have hew : EvW l[k].e := HA.1 _ (List.getElem_mem hlt)
        obtain ⟨x, hx⟩ : ∃ x, x = l[k] := ⟨_, rfl⟩
        rw [← hx] at hcw hew
        clear hx
        have hbk : BkOk b := HI.out.ok (by have := HN.out.1; omega)
        have hac := act_any HP.out.book hbk x hew
        have HS : Hid (∀ b', StepA b x b' → Inv b') := fun b' hs => inv_step HI.out hew (by have := HN.out.1; omega) hs
        have HSA : Hid (∀ b' c, DoesA b x c b' → (c ≠ 0 ∧ b' = b) ∨ (c = 0 ∧ StepA b x b')) := fun b' c hd => hd
        have HST : Hid (∀ b', StepA b x b' → b'.n = b.n + 1 ∧ ∀ t : Int, t ≤ b.n → asOf b' t = asOf b t) := fun b' hs => ⟨step_n hs, fun t ht => asOf_step HI.out hs t ht⟩
        obtain ⟨what, id, ⟨id0, item, kind, qty, price, ofI, day⟩⟩ := x
        have q0 := hcw 0 (by omega)
        have q1 := hcw 1 (by omega)
        have q2 := hcw 2 (by omega)
        have q3 := hcw 3 (by omega)
        have q4 := hcw 4 (by omega)
        have q5 := hcw 5 (by omega)
        have q6 := hcw 6 (by omega)
        have q7 := hcw 7 (by omega)
        have q8 := hcw 8 (by omega)
        simp only [acC, List.getElem?_cons_zero, List.getElem?_cons_succ, Nat.add_zero] at q0 q1 q2 q3 q4 q5 q6 q7 q8
        unfold acV at hac
        simp only at hac
        clear hcw hc hbk
        have hkz : (k : Int) < (l.length : Int) := by omega
        go_wp2_with fail
        refine hac.mono ?_
        rintro e w2 ⟨c, b2, sv2, rfl, hd, H2, T2, F2⟩
        have hd' := HSA.out b2 c hd
        have HB2 : Hid (Below w1.heap.size w1 w2) := T2.below HP.out.book HB.out HB.out.size
        clear hac hd HSA q0 q1 q2 q3 q4 q5 q6 q7 q8 hew hkz
        have hl2 : b2.vs.length ≤ 1000000 := by
          rcases hd' with ⟨_, hbb⟩ | ⟨_, hst⟩
          · rw [hbb]; have := HI.out.full; omega
          · have := (HS.out b2 hst).full; omega
        rcases hd' with ⟨hc0, hbb⟩ | ⟨hc0, hst⟩
        case' inl =>
          have HP3 : Hid (PastAt w2 w1.heap.size w1.heap.size sv2 u4 b2 ps) := HP.out.turned T2 H2 F2 (fun t _ => by rw [hbb])
          have HI3 : Hid (Inv b2) := by rw [hbb]; exact HI
          have HN3 : Hid (b2.n ≤ ((k + 1 : Nat) : Int) ∧ (ps.length : Int) = b2.n + 1) := by rw [hbb]; exact ⟨by have := HN.out.1; omega, HN.out.2⟩
          have HB3 := HB2
          clear HP HI HN HB hbb H2 T2 F2 HS HST HB2
          unfold errV
          rw [if_neg hc0]
          clear hc0
          obtain ⟨w3, rfl⟩ : ∃ x, x = w2 := ⟨_, rfl⟩
          obtain ⟨b3, rfl⟩ : ∃ x, x = b2 := ⟨_, rfl⟩
          obtain ⟨sv3, rfl⟩ : ∃ x, x = sv2 := ⟨_, rfl⟩
          obtain ⟨pv3, rfl⟩ : ∃ x, x = u4 := ⟨_, rfl⟩
          obtain ⟨ps3, rfl⟩ : ∃ x, x = ps := ⟨_, rfl⟩
          go_wp2_with fail
        case' inr =>
          have HP2 : Hid (PastAt w2 w1.heap.size w1.heap.size sv2 u4 b2 ps) := HP.out.turned T2 H2 F2 (fun t ht => (HST.out b2 hst).2 t (by have := HN.out.2; omega))
          have HI3 : Hid (Inv b2) := HS.out b2 hst
          have hn2 : b2.n = (ps.length : Int) := by have := (HST.out b2 hst).1; have := HN.out.2; omega
          have hpl : ps.length ≤ 100 := by have := HN.out.1; have := HN.out.2; omega
          have HN2 : Hid (b2.n ≤ ((k + 1 : Nat) : Int) ∧ ps.length ≤ k + 1) := ⟨by have := (HST.out b2 hst).1; have := HN.out.1; omega, by have := HN.out.1; have := HN.out.2; omega⟩
          have HNP : Hid (b2.n = (ps.length : Int)) := hn2
          have ha := as_any HP2.out.book hl2 (-1)
          rw [show tOf b2 (-1) = (ps.length : Int) by rw [tOf, if_pos (by decide), hn2]] at ha
          clear HP HI HN HB H2 T2 F2 HS HST hst
          unfold errV
          rw [if_pos hc0]
          clear hc0
          go_wp2_with fail
          refine ha.mono ?_
          rintro e wa ⟨v, rfl, hv, hba⟩
          have HV : Hid (wa.ownsRow w2.heap.size 34 7 v (srt (asOf b2 ps.length)).length ((srt (asOf b2 ps.length)).flatMap evC)) := hv
          obtain ⟨av, capv, hv'⟩ := own_len hv
          subst hv'
          have HPa : Hid (PastAt wa w1.heap.size w1.heap.size sv2 u4 b2 ps) := HP2.out.below hba
          have HBa : Hid (Below w1.heap.size w1 wa) := HB2.out.trans (hba.mono HB2.out.size)
          have HV1 : Hid (∀ g, Value.ownBlock (.slice av (srt (asOf b2 ps.length)).length capv) = some g → w2.heap.size ≤ g) := fun g e => (hv.lt g e).1
          have hs1 := HBa.out.size
          clear ha hv hba hn2
          generalize hln : (srt (asOf b2 ps.length)).length = ln at HV HV1 ⊢
          have HL : Hid (_ = ln) := hln
          clear hln
          go_wp2_with (first
            | (at_builtin; refine wpList_append_new _ rfl _ _ 28 rfl w1.heap.size 37 i0 (.slice none 0 0) 1 24 Tryd.underlying28 hi hz0 hz1 hz2 rfl (by decide) _ _ _ rfl (HPa.out.row.alloc _) ⟨wa.heap.size, 0, none⟩ 1 1 [.slice av ln capv] rfl rfl ?d1 ?d2 ?d3 ?d4 ?d5 (by decide) ?_)
            | go_in)
          case d1 =>
            intro j u hj
            match j, hj with
            | 0, hj => simp at hj; subst hj; simp [Addr.add]
          case d2 => intro u hu; simp at hu; subst hu; rfl
          case d3 => unfold maxLen; omega
          case d4 => omega
          case d5 => simp; omega
          intro pv3 w3 hown3 hgr3 hfr3
          have hB2a : Below wa.heap.size wa (wa.alloc (.cells #[.slice av ln capv] 37)) := (Below.refl _ _).alloc (Nat.le_refl _) _
          have hlt2 := HP2.out.book.lt
          have HP3 : Hid (PastAt w3 w1.heap.size w1.heap.size sv2 pv3 b2 (ps ++ [.slice av ln capv])) := by
            refine (HPa.out.below hB2a).push ?_ (fun e => ?_) (fun g hg e => ?_) (fun g hg e => ?_) hown3 hgr3 hfr3
            · rw [HL.out]; exact own_below HV.out hB2a (Nat.le_of_lt hlt2)
            · have := HV1.out _ e; omega
            · have := HV1.out _ e; have := (HP2.out.book.block g hg).2; omega
            · have := HV1.out _ e; have := own_lt HP2.out.row hg; omega
          have HN3 : Hid (b2.n ≤ ((k + 1 : Nat) : Int) ∧ ((ps ++ [Value.slice av ln capv]).length : Int) = b2.n + 1) := ⟨HN2.out.1, by rw [List.length_append]; simp; exact HNP.out.symm⟩
          have HB3 : Hid (Below w1.heap.size w1 w3) := (HBa.out.alloc hs1 _).grown hgr3 (by simp; omega) (fun g e => (HPa.out.row.lt g e).1)
          clear HP2 HPa HBa HV HV1 HL hown3 hgr3 hfr3 hB2a hlt2 hs1 HN2 HNP hpl HB2
          generalize ps ++ [Value.slice av ln capv] = ps3 at HP3 HN3
          obtain ⟨b3, rfl⟩ : ∃ x, x = b2 := ⟨_, rfl⟩
          obtain ⟨sv3, rfl⟩ : ∃ x, x = sv2 := ⟨_, rfl⟩
          go_wp2_with fail
        all_goals
          have hN := HN3.out
          have hn0 := HI3.out.n0
          obtain ⟨np, hnp⟩ : ∃ np, ps3.length = np + 1 := ⟨ps3.length - 1, by omega⟩
          have hbn : b3.n = (np : Int) := by omega
          have hnk : np ≤ 100 := by omega
          obtain ⟨gp, capp, hpv, hgp⟩ : ∃ g c, pv3 = .slice (some ⟨g, 0, none⟩) (np + 1) c ∧ g < w3.heap.size := by
            rcases own_form HP3.out.row with ⟨_, hn, _⟩ | ⟨g, c, hv, _, hg, _⟩
            · omega
            · exact ⟨g, c, by rw [hv, hnp], hg⟩
          subst hpv
          have ht := turn_any HP3.out.book
          rw [hbn] at ht
          have HNP : Hid (ps3.length = np + 1 ∧ b3.n = (np : Int)) := ⟨hnp, hbn⟩
          clear hN hn0 hnp hbn
          refine ht.mono ?_
          rintro e w3' ⟨rfl, hw3⟩
          subst w3'
          clear ht
          go_wp2
          go_loopw [7] (fun j wr2 => ∃ m : Nat, m ≤ np + 1 ∧ j = .int .i64 m ∧ Hid (Below w3.heap.size w3 wr2)) (fun j _ => np + 1 - (intOf j).toNat)
          case atStart => exact ⟨0, Nat.zero_le _, rfl, Below.refl _ _⟩
          case round =>
            obtain ⟨m, hm, rfl, HB4⟩ := hrel
            by_cases hlm : m < np + 1
            · have hmz : (m : Int) < (np : Int) + 1 := by omega
              obtain ⟨W4, hW4⟩ : ∃ W, W = wr.drew := ⟨_, rfl⟩
              have HL4 : Hid (Below w3.heap.size w3 W4) := by rw [hW4]; exact HB4.out.trans ((below_drew _).mono HB4.out.size)
              have HP4 : Hid (PastAt W4 w1.heap.size w1.heap.size sv3 (.slice (some ⟨gp, 0, none⟩) (np + 1) capp) b3 ps3) := HP3.out.below HL4.out
              have hmp : m < ps3.length := by have := HNP.out.1; omega
              have HE4 : Hid (W4.ownsRow w1.heap.size 34 7 ps3[m] (srt (asOf b3 m)).length ((srt (asOf b3 m)).flatMap evC)) := HP4.out.each m hmp
              have hrow := HP4.out.row
              rw [HNP.out.1] at hrow
              have hcell := (own_flat hrow m hmp).1
              obtain ⟨am, cm, hvm⟩ := own_len HE4.out
              obtain ⟨pm, hpm⟩ : ∃ x, x = ps3[m] := ⟨_, rfl⟩
              rw [← hpm] at HE4 hcell hvm
              clear hpm
              subst hvm
              have ha := as_any HP4.out.book hl2 (m : Int)
              rw [show tOf b3 (m : Int) = (m : Int) by rw [tOf, if_neg (by omega)]] at ha
              generalize hlm2 : (srt (asOf b3 (m : Int))).length = lm at HE4 ha hcell
              have HLM : Hid (_ = lm) := hlm2
              clear hlm2 hrow
              have hU := up_ne
              have hA := anyW_ne
              have g5 := fun n : Up W4 => n.cell hcell
              go_wp2_with fail
              refine wp_region_turn [(.pure, 0), (.pure, 2), (.pure, 3), (.pure, 4), (.read, 5), (.make, 1), (.make, 6), (.pure, 7)] (by kernel_rfl) (by kernel_rfl) ?_
              rw [← hW4]
              clear hW4
              repeat (first | refine turn_p rfl ?_ | refine turn_q rfl ?_); go_big_quiet_step (fail); refine wpQuiet_nil ?_
              refine turn_n rfl ?_
              go_wp2_with fail
              refine ha.mono ?_
              rintro e w5 ⟨v5, rfl, O5, L5⟩
              have E5 : w5.ownsRow w1.heap.size 34 7 (.slice am lm cm) lm ((srt (asOf b3 m)).flatMap evC) := own_below HE4.out L5 (Nat.le_refl _)
              have heq := eq_same (l := srt (asOf b3 (m : Int))) (by rw [HLM.out]; exact O5) (by rw [HLM.out]; exact E5)
              clear ha g5 hcell O5 E5
              go_wp2_with fail
              refine ⟨rfl, L5, ?_⟩
              refine turn_n rfl ?_
              go_wp2_with fail
              refine heq.mono ?_
              rintro e w6 ⟨rfl, L6⟩
              clear heq
              go_wp2_with fail
              refine ⟨rfl, L6, ?_⟩
              repeat (first | refine turn_p rfl ?_ | refine turn_q rfl ?_); go_big_quiet_step (fail); refine wpQuiet_nil ?_
              refine turn_nil ?_
              have HB6 : Hid (Below w3.heap.size w3 w6) := (HL4.out.trans (L5.mono HL4.out.size)).trans (L6.mono (Nat.le_trans HL4.out.size L5.size))
              go_wp2
              go_roundw
              case rel => exact ⟨m + 1, by omega, by go_num, HB6⟩
              case measure => simp [intOf]; omega
            · have hmm := @run_makeMap Tryd.prog
              obtain ⟨W5, rfl⟩ : ∃ x, x = wr := ⟨_, rfl⟩
              have HP5 : Hid (PastAt W5 w1.heap.size w1.heap.size sv3 (.slice (some ⟨gp, 0, none⟩) (np + 1) capp) b3 ps3) := HP3.out.below HB4.out
              have hmp : np < ps3.length := by have := HNP.out.1; omega
              have HE5 : Hid (W5.ownsRow w1.heap.size 34 7 ps3[np] (srt (asOf b3 np)).length ((srt (asOf b3 np)).flatMap evC)) := HP5.out.each np hmp
              have hrow := HP5.out.row
              rw [HNP.out.1] at hrow
              have hcell := (own_flat hrow np hmp).1
              obtain ⟨pm, hpm⟩ : ∃ x, x = ps3[np] := ⟨_, rfl⟩
              rw [← hpm] at HE5 hcell
              clear hpm hrow hmp
              obtain ⟨am, cm, hvm⟩ := own_len HE5.out
              subst hvm
              have HND : Hid (((srt (asOf b3 np)).map (·.id)).Nodup) := by
                have := now_nodup HI3.out
                rw [HNP.out.2] at this
                exact this
              have HMM : Hid (∀ e ∈ srt (asOf b3 np), Rt e ∧ EvW e ∧ 1 ≤ e.id) := fun e he => now_mem HI3.out e (by rw [HNP.out.2]; exact he)
              have hL40 : (srt (asOf b3 np)).length ≤ 1000000 := by
                rw [srt_len]
                unfold asOf
                rw [List.length_map]
                exact Nat.le_trans (List.length_filter_le _ _) hl2
              generalize srt (asOf b3 (np : Int)) = L at HE5 HND HMM hL40 hcell
              have hgpl : gp < W5.heap.size := Nat.lt_of_lt_of_le hgp HB4.out.size
              go_wp2
              go_loopw [9] (fun j wr3 => ∃ m : Nat, m ≤ L.length ∧ j = .int .i64 m ∧ Hid (wr3.ownsMap Tryd.prog 3 (plainElem (H := Unit) Tryd.prog 4) W5.heap.size m (Maps.setOf (.lit (.bool true)) (keysL (L.take m)))) ∧ Hid (Below W5.heap.size W5 wr3)) (fun j _ => L.length - (intOf j).toNat)
              case atStart => exact ⟨0, Nat.zero_le _, rfl, World.ownsMap_made _ _ _ _, (Below.refl _ _).alloc (Nat.le_refl _) _⟩
              case round =>
                obtain ⟨m2, hm2, rfl, HM, HB7⟩ := hrel
                have hc7 : wr.cell? ⟨gp, np, none⟩ = some (.slice am L.length cm) := by rw [HB7.out.cell (p := ⟨gp, np, none⟩) hgpl]; exact hcell
                by_cases hl7 : m2 < L.length
                · have hmz : (m2 : Int) < (L.length : Int) := by omega
                  obtain ⟨gl, hgl, hgl2⟩ : ∃ g, am = some ⟨g, 0, none⟩ ∧ g < W5.heap.size := by
                    rcases own_form HE5.out with ⟨hv, hn, _⟩ | ⟨g, c, hv, _, hg, _⟩
                    · omega
                    · injection hv with h1 _ _; exact ⟨g, h1, hg⟩
                  subst hgl
                  obtain ⟨x, hx⟩ : ∃ x, x = L[m2] := ⟨_, rfl⟩
                  have hcw : ∀ j, j < 7 → wr.cell? ⟨gl, m2 * 7 + j, none⟩ = (evC x)[j]? := fun j hj => by
                    rw [HB7.out.cell (p := ⟨gl, m2 * 7 + j, none⟩) hgl2, (own_cell evC_len HE5.out m2 j hl7 hj).1, hx]
                  have hno := keysL_no hl7 HND.out
                  have hsn := keysL_snoc L m2 hl7
                  obtain ⟨hrt, hew, hid1⟩ := HMM.out x (by rw [hx]; exact List.getElem_mem hl7)
                  rw [← hx] at hno hsn
                  have HSN : Hid (_ = _) := hsn
                  clear hx hsn
                  have hrg := fun W => right_any x W hew
                  have hkey : keyOf Tryd.prog 3 (.int .i64 x.id) = some (.int .i64 x.id) := Maps.keyOf_int_mk Tryd.underlying3 hew.id
                  have HRT : Hid (Rt x) := hrt
                  clear hrt hew
                  obtain ⟨id1, item1, kind1, qty1, price1, ofI1, day1⟩ := x
                  unfold evV at hrg
                  simp only at hrg hno hkey hid1 HSN
                  have q0 := hcw 0 (by omega)
                  have q1 := hcw 1 (by omega)
                  have q2 := hcw 2 (by omega)
                  have q3 := hcw 3 (by omega)
                  have q4 := hcw 4 (by omega)
                  have q5 := hcw 5 (by omega)
                  have q6 := hcw 6 (by omega)
                  simp only [evC, List.getElem?_cons_zero, List.getElem?_cons_succ, Nat.add_zero] at q0 q1 q2 q3 q4 q5 q6
                  clear hcw
                  have hub := Tryd.underlying4
                  go_wp2_with (at_lookup; refine wpList_lookup_no _ rfl _ _ 41 rfl 3 4 law_int Tryd.underlying41 hub (zero_bool _) W5.heap.size m2 _ rfl (HM.out.alloc _) _ _ rfl hkey hno ?_)
                  refine (hrg _).mono ?_
                  rintro e w8 ⟨⟨bb, rfl, hbb⟩, hb8⟩
                  obtain rfl : bb = true := hbb.2 HRT.out
                  obtain ⟨o8, ho8⟩ : ∃ o, o = Obj.cells #[.int .i64 id1, .string item1, .int .i64 kind1, .int .i64 qty1, .int .i64 price1, .int .i64 ofI1, .int .i64 day1] 34 := ⟨_, rfl⟩
                  rw [← ho8] at hb8
                  have HM8 : Hid (w8.ownsMap Tryd.prog 3 (plainElem (H := Unit) Tryd.prog 4) W5.heap.size m2 (Maps.setOf (.lit (.bool true)) (keysL (L.take m2)))) := (HM.out.alloc o8).kept (row := none) ⟨hb8.os, hb8.tape, hb8.output, hb8.size, fun k hk _ => hb8.block k hk⟩ (by simp)
                  have e8 : w8.cell? ⟨wr.heap.size, 0, none⟩ = some (.int .i64 id1) := by
                    rw [hb8.cell (p := ⟨wr.heap.size, 0, none⟩) (by simp), ho8]; simp
                  have HB8 : Hid (Below W5.heap.size W5 w8) := (HB7.out.alloc HB7.out.size _).trans (hb8.mono (by have := HB7.out.size; simp; omega))
                  have hid2 : ¬ id1 < 1 := by omega
                  clear hbb hb8 ho8 HM hrg q0 q1 q2 q3 q4 q5 q6 hno HB7
                  go_wp2_with (at_mapUpdate; refine wpList_mapUpdate_own _ rfl _ _ _ 41 rfl 3 4 law_int Tryd.underlying41 (plainElem (H := Unit) Tryd.prog 4) W5.heap.size m2 _ rfl HM8.out (by unfold maxLen; omega) _ _ _ rfl rfl hkey _ [] (plainElem_bool hub true) ?_; intro w9 hown9 hgr9)
                  go_roundw
                  case rel =>
                    refine ⟨m2 + 1, by omega, by go_num, ?_, ?_⟩
                    · rw [HSN.out]; exact hown9
                    · exact HB8.out.grown hgr9 HB8.out.size (fun j hj => by cases hj; exact Nat.le_refl _)
                  case measure => simp [intOf]; omega
                · have HBo : Hid (Below w1.heap.size w1 wr) := (HB3.out.trans (HB4.out.mono HB3.out.size)).trans (HB7.out.mono (Nat.le_trans HB3.out.size HB4.out.size))
                  have HPo : Hid (PastAt wr w1.heap.size w1.heap.size sv3 (.slice (some ⟨gp, 0, none⟩) (np + 1) capp) b3 ps3) := HP5.out.below HB7.out
                  go_wp2
                  go_roundw
                  case rel => exact ⟨k + 1, b3, sv3, ps3, by omega, by go_num, HPo, HI3, HN3, HBo⟩
                  case measure => simp [intOf]; omega
      · have HB' := HB.out
        go_wp2
        go_ret
        exact ⟨rfl, HBW.out.trans (HB'.mono HBW.out.size)⟩
end Go.Proofs.YtihkeblhidflpaaDoor
