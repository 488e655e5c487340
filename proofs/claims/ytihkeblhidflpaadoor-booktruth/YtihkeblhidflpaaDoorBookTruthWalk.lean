/- The walk of tallymankeep.BookTruth. -/
import Derived.Test.YtihkeblhidflpaaDoorTruthMem
import Derived.Test.YtihkeblhidflpaaDoorKeepSmall
import Derived.Test.YtihkeblhidflpaaDoorKeepBooked
namespace Go.Proofs.YtihkeblhidflpaaDoor
open Go.RowKit
set_option maxRecDepth 20000 in
set_option maxHeartbeats 16000000 in
theorem truth_walk (l : List Ac) (ao : Option Addr) (cap : Nat) (w : World) (hg : ErrType w) (h : ActsAt w ao l) (hm : l.length ≤ maxLen) :
    Calls Tryd.prog 4 #[.slice ao l.length cap] w fun e w' => e = .returned (.bool true) ∧ Below w.heap.size w w' := by
  obtain ⟨i0, hi, hz0, hz1, hz2⟩ := info_parts Tryd.infoEv
  have hsm := small_any l ao cap w h hm
  have hbk := booked_any w hg
  clear hg hm
  have hmm := @run_makeMap Tryd.prog
  go_enter Tryd.func4, Tryd.ntmps4
  go_wp2_with fail
  refine hsm.mono ?_
  rintro e w0 ⟨⟨bb, rfl, hbb⟩, rfl⟩
  clear hsm
  cases bb with
  | false =>
    clear hbk
    go_wp2
    go_ret
    exact ⟨rfl, Below.refl _ _⟩
  | true =>
    have h40 : l.length ≤ 40 := hbb rfl
    clear hbb
    go_wp2_with fail
    refine hbk.mono ?_
    rintro e w1 ⟨rfl, hb1⟩
    clear hbk
    have HA : ActsAt w1 ao l := h.below hb1 (Nat.le_refl _)
    have HBW : Hid (Below w0.heap.size w0 w1) := hb1
    clear hb1 h
    have HT0 : Hid (TruthAt ((w1.alloc (.cells #[.slice none 0 0, .int .i64 0, .int .i64 0] 27)).alloc (.map #[] 0)) w1.heap.size w1.heap.size (w1.heap.size + 1) (.slice none 0 0) bk0 0 (.map [])) := by
      refine ⟨(book_new w1 w1.heap.size (Nat.le_refl _)).below ((Below.refl _ _).alloc (Nat.le_refl _) _), ?_, Nat.le_succ _, last_zero⟩
      have := World.ownsMap_made (w1.alloc (.cells #[.slice none 0 0, .int .i64 0, .int .i64 0] 27)) Tryd.prog 3 evElem
      simpa using this
    go_wp2
    go_loopw [5] (fun i wr => ∃ (k : Nat) (b : Bk) (sv : Value) (D : DataW Unit), k ≤ l.length ∧ i = .int .i64 k ∧ Hid (TruthAt wr w1.heap.size w1.heap.size (w1.heap.size + 1) sv b k D) ∧ Hid (Inv b) ∧ Hid (b.n ≤ k) ∧ Hid (Below w1.heap.size w1 wr))
      (fun i _ => l.length - (intOf i).toNat)
    case atStart => exact ⟨0, bk0, .slice none 0 0, .map [], Nat.zero_le _, rfl, HT0, inv_zero, Int.le_refl _, ((Below.refl _ _).alloc (Nat.le_refl _) _).alloc (by simp) _⟩
    case round =>
      obtain ⟨k, b, sv, D, hk, rfl, HT, HI, HN, HB⟩ := hrel
      by_cases hlt : k < l.length
      · obtain ⟨ab, off, rfl, hab, hc⟩ := HA.2 (by omega)
        have hcw : ∀ j, j < 9 → wr.cell? ⟨ab, off + k * 9 + j, none⟩ = (acC l[k])[j]? := fun j hj => by
          rw [HB.out.cell (p := ⟨ab, off + k * 9 + j, none⟩) hab]; exact hc k hlt j hj
        have hew : EvW l[k].e := HA.1 _ (List.getElem_mem hlt)
        obtain ⟨x, hx⟩ : ∃ x, x = l[k] := ⟨_, rfl⟩
        rw [← hx] at hcw hew
        clear hx
        have hbk : BkOk b := HI.out.ok (by have := HN.out; omega)
        obtain ⟨o1, ho1⟩ : ∃ o, o = Obj.cells #[.int .i64 x.what, .int .i64 x.id, .int .i64 x.e.id, .string x.e.item, .int .i64 x.e.kind, .int .i64 x.e.qty, .int .i64 x.e.price, .int .i64 x.e.ofI, .int .i64 x.e.day] 36 := ⟨_, rfl⟩
        have hB1 : Below wr.heap.size wr (wr.alloc o1) := (Below.refl _ _).alloc (Nat.le_refl _) _
        have hac := act_any (HT.out.below hB1).book hbk x hew
        have HS : Hid (∀ b', StepA b x b' → Inv b' ∧ b'.n = b.n + 1) := fun b' hs => ⟨inv_step HI.out hew (by have := HN.out; omega) hs, step_n hs⟩
        have HSA : Hid (∀ b' c, DoesA b x c b' → (c ≠ 0 ∧ b' = b) ∨ (c = 0 ∧ StepA b x b')) := fun b' c hd => hd
        have HC1 : Hid (∀ j, j < 9 → (wr.alloc o1).cell? ⟨wr.heap.size, j, none⟩ = (acC x)[j]?) := fun j hj => by
          rw [ho1]; exact act_cells x _ j
        obtain ⟨what, id, ⟨id0, item, kind, qty, price, ofI, day⟩⟩ := x
        have q0 := hcw 0 (by omega)
        have q1 := hcw 1 (by omega)
        have q2 := hcw 2 (by omega)
        have q3 := hcw 3 (by omega)
        have q4 := hcw 4 (by omega)
        have q5 := hcw 5 (by omega)
        have q6 := hcw 6 (by omega)
        have q7 := hcw 7 (by omega)
        have q8 := hcw 8 (by omega)
        simp only [acC, List.getElem?_cons_zero, List.getElem?_cons_succ, Nat.add_zero] at q0 q1 q2 q3 q4 q5 q6 q7 q8
        unfold acV at hac
        simp only at hac ho1
        clear hcw hc hbk
        have hkz : (k : Int) < (l.length : Int) := by omega
        have HO1 : Hid (o1 = _) := ho1
        clear ho1
        go_wp2_with fail
        rw [← HO1.out]
        refine hac.mono ?_
        rintro e w2 ⟨c, b2, sv2, rfl, hd, H2, T2, F2⟩
        have hd' := HSA.out b2 c hd
        have HT1 := HT.out.below hB1
        have HB1 : Below w1.heap.size w1 (wr.alloc o1) := HB.out.alloc HB.out.size _
        have HB2 : Hid (Below w1.heap.size w1 w2) := T2.below HT1.book HB1 HB1.size
        have HM2 : Hid (w2.ownsMap Tryd.prog 3 evElem (w1.heap.size + 1) k D) := map_turned HT1.map HT1.book T2
        have hC2 : ∀ j, j < 9 → w2.cell? ⟨wr.heap.size, j, none⟩ = (acC ⟨what, id, ⟨id0, item, kind, qty, price, ofI, day⟩⟩)[j]? := fun j hj => by
          have hlt1 := HT.out.book.lt
          have hsv : sv.ownBlock ≠ some wr.heap.size := fun e => by have := (HT.out.book.block _ e).2; omega
          rw [(T2.cell (c := wr.heap.size) (by simp) (by omega) hsv j).1]
          exact HC1.out j hj
        have s2 : wr.heap.size < w2.heap.size := by have := T2.size; simp at this; omega
        clear hac hd HSA q0 q1 q2 q3 q4 q5 q6 q7 q8 hew hkz HT1 HB1 HC1 HO1 hB1 T2 F2
        rcases hd' with ⟨hc0, hbb⟩ | ⟨hc0, hst⟩
        · have HT3 : Hid (TruthAt w2 w1.heap.size w1.heap.size (w1.heap.size + 1) sv2 b2 (k + 1) D) := ⟨H2, HM2.out.mono (Nat.le_succ _), HT.out.ge, by rw [hbb]; exact HT.out.last⟩
          have HI3 : Hid (Inv b2) := by rw [hbb]; exact HI
          have HN3 : Hid (b2.n ≤ ((k + 1 : Nat) : Int)) := by rw [hbb]; have := HN.out; show _ ≤ _; omega
          clear HT HI HN HB hbb H2 HS HM2 hC2
          unfold errV
          rw [if_neg hc0]
          clear hc0
          go_wp2
          go_roundw
          case rel => exact ⟨k + 1, b2, sv2, D, by omega, by go_num, HT3, HI3, HN3, HB2⟩
          case measure => simp [intOf]; omega
        · have HI3 : Hid (Inv b2) := (HS.out b2 hst).1
          have HN3 : Hid (b2.n ≤ ((k + 1 : Nat) : Int)) := by have := (HS.out b2 hst).2; have := HN.out; show _ ≤ _; omega
          have HL : Hid (LastD D b) := HT.out.last
          unfold errV
          rw [if_pos hc0]
          clear hc0
          have q0 := hC2 0 (by omega)
          have q1 := hC2 1 (by omega)
          have q2 := hC2 2 (by omega)
          have q3 := hC2 3 (by omega)
          have q4 := hC2 4 (by omega)
          have q5 := hC2 5 (by omega)
          have q6 := hC2 6 (by omega)
          have q7 := hC2 7 (by omega)
          have q8 := hC2 8 (by omega)
          simp only [acC, List.getElem?_cons_zero, List.getElem?_cons_succ] at q0 q1 q2 q3 q4 q5 q6 q7 q8
          rcases hst with ⟨hw0, hr, hl0, hb2⟩ | ⟨hw1, hr, hl1, kk, hkk, hkx, hb2⟩ | ⟨hw2, kk, hkk, hkx, hb2⟩
          · simp only at hw0
            subst hw0
            obtain ⟨gN, hgN⟩ : ∃ gN : Nat, b.g = gN := ⟨b.g.toNat, by have := HI.out.g0; omega⟩
            have hg40 : gN ≤ 100 := by have := HI.out.gn; have := HN.out; omega
            have HH : Hid (∀ id : Int, Maps.has D (.int .i64 id) = decide (1 ≤ id ∧ id ≤ b.g)) := HL.out.has
            have HLP : Hid (LastD (D.put (.int .i64 ((gN : Int) + 1)) (evL ⟨(gN : Int) + 1, item, kind, qty, price, ofI, day⟩)) b2) := by
              have := last_post HI.out HL.out ⟨id0, item, kind, qty, price, ofI, day⟩
              rw [hgN] at this
              rw [hb2]; exact this
            have HGN : Hid (b.g = (gN : Int)) := hgN
            obtain ⟨W3, hW3⟩ : ∃ W, W = w2.alloc (.cells #[.int .i64 id0, .string item, .int .i64 kind, .int .i64 qty, .int .i64 price, .int .i64 ofI, .int .i64 day] 34) := ⟨_, rfl⟩
            have E3 : EvAt W3 w2.heap.size ⟨id0, item, kind, qty, price, ofI, day⟩ := by rw [hW3]; constructor <;> simp
            have Z3 : W3.frozen? ⟨w2.heap.size, 0, none⟩ = false := by rw [hW3]; simp
            have L3 : Below w2.heap.size w2 W3 := by rw [hW3]; exact (Below.refl _ _).alloc (Nat.le_refl _) _
            have s3 : w2.heap.size < W3.heap.size := by rw [hW3]; simp
            have HM3 : Hid (W3.ownsMap Tryd.prog 3 evElem (w1.heap.size + 1) k D) := map_below HM2.out L3
            have HMl : Hid (w1.heap.size + 1 < w2.heap.size) := HM2.out.lt
            have HW3 : Hid (W3 = _) := hW3
            clear hgN hW3 HT HI HN HB hb2 HS HM2 hC2 HL hr hl0
            go_wp2
            rw [← HW3.out]
            go_loopw [8] (fun j wr2 => ∃ m : Nat, 1 ≤ m ∧ m ≤ gN + 1 ∧ j = .int .i64 m ∧ Hid (Below W3.heap.size W3 wr2)) (fun j _ => gN + 2 - (intOf j).toNat)
            case atStart => exact ⟨1, Nat.le_refl _, by omega, rfl, Below.refl _ _⟩
            case round =>
              obtain ⟨m, hm1, hm2, rfl, HB4⟩ := hrel
              have hkey : keyOf Tryd.prog 3 (.int .i64 (m : Int)) = some (.int .i64 (m : Int)) := key_int m (wf_small (by omega) (by omega))
              have HM4 : Hid (wr.ownsMap Tryd.prog 3 evElem (w1.heap.size + 1) k D) := map_below HM3.out HB4.out
              by_cases hmg : m ≤ gN
              · have hhas : Maps.has D (.int .i64 (m : Int)) = true := by rw [HH.out, HGN.out]; simp; omega
                go_wp2_with (at_lookup; refine wpList_lookup_ev _ rfl _ _ 43 rfl 3 34 law_intT Tryd.underlying43 (zero_ev _) (w1.heap.size + 1) k D rfl HM4.out _ _ rfl hkey true hhas ?_; intro y)
                have HB5 : Hid (Below W3.heap.size W3 (wr.alloc (.cells #[.int .i64 y.id, .string y.item, .int .i64 y.kind, .int .i64 y.qty, .int .i64 y.price, .int .i64 y.ofI, .int .i64 y.day] 34))) := HB4.out.alloc HB4.out.size _
                go_roundw
                case rel => exact ⟨m + 1, by omega, by omega, by go_num, HB5⟩
                case measure => simp [intOf]; omega
              · obtain rfl : m = gN + 1 := by omega
                have hhas : Maps.has D (.int .i64 ((gN + 1 : Nat) : Int)) = false := by rw [HH.out, HGN.out]; simp; omega
                have E4 := E3.below HB4.out
                have Z4 : wr.frozen? ⟨w2.heap.size, 0, none⟩ = false := (HB4.out.frozen (p := ⟨w2.heap.size, 0, none⟩) s3).trans Z3
                have r0 := E4.c0
                have r1 := E4.c1
                have r2 := E4.c2
                have r3 := E4.c3
                have r4 := E4.c4
                have r5 := E4.c5
                have r6 := E4.c6
                simp only at r0 r1 r2 r3 r4 r5 r6
                have hmb : w1.heap.size + 1 ≠ w2.heap.size := by have := HMl.out; omega
                have hkey2 : keyOf Tryd.prog 3 (.int .i64 ((gN : Int) + 1)) = some (.int .i64 ((gN : Int) + 1)) := key_int _ (wf_small (by omega) (by omega))
                have hse : wr.heap.size ≠ w2.heap.size := by have := HB4.out.size; omega
                have hse2 : w2.heap.size < wr.heap.size := by have := HB4.out.size; omega
                go_wp2_with (first
                  | (at_lookup; refine wpList_lookup_ev _ rfl _ _ 43 rfl 3 34 law_intT Tryd.underlying43 (zero_ev _) (w1.heap.size + 1) k D rfl HM4.out _ _ rfl hkey false hhas ?_; intro y)
                  | (at_mapUpdate; refine wpList_mapUpdate_own _ rfl _ _ _ 43 rfl 3 34 law_intT Tryd.underlying43 evElem (w1.heap.size + 1) k D rfl ?own (by unfold maxLen; omega) _ _ _ rfl rfl hkey2 _ [] (evElem_mk ⟨(gN : Int) + 1, item, kind, qty, price, ofI, day⟩) ?_))
                case own => exact (HM4.out.setCell hmb _).alloc _
                intro w7 hown7 hgr7
                obtain ⟨W6, hW6⟩ : ∃ W, W = (wr.setCell ⟨w2.heap.size, 0, none⟩ (.int .i64 ((gN : Int) + 1))).alloc (.cells #[.int .i64 y.id, .string y.item, .int .i64 y.kind, .int .i64 y.qty, .int .i64 y.price, .int .i64 y.ofI, .int .i64 y.day] 34) := ⟨_, rfl⟩
                rw [← hW6] at hgr7
                have hBk : BookAt W6 w1.heap.size w1.heap.size sv2 b2 := by
                  rw [hW6]
                  refine (((H2.below L3).below HB4.out).other w2.heap.size 0 _ (by have := HB2.out.size; have := H2.lt; omega) (fun e => ?_)).below ((Below.refl _ _).alloc (Nat.le_refl _) _)
                  have := (H2.block _ e).2; omega
                have hMp : W6.ownsMap Tryd.prog 3 evElem (w1.heap.size + 1) k D := by rw [hW6]; exact (HM4.out.setCell hmb _).alloc _
                have HT7 : Hid (TruthAt w7 w1.heap.size w1.heap.size (w1.heap.size + 1) sv2 b2 (k + 1) (D.put (.int .i64 ((gN : Int) + 1)) (evL ⟨(gN : Int) + 1, item, kind, qty, price, ofI, day⟩))) := TruthAt.put hBk hMp hgr7 hown7 (Nat.le_succ _) HLP.out
                have HB7 : Hid (Below w1.heap.size w1 w7) := by
                  have h1 : Below w1.heap.size w1 wr := (HB2.out.trans (L3.mono HB2.out.size)).trans (HB4.out.mono (Nat.le_trans HB2.out.size L3.size))
                  have h2 : Below w1.heap.size w1 W6 := by rw [hW6]; exact (h1.setCell (by have := HB2.out.size; simp; omega) _).alloc (by have := h1.size; simp [World.setCell]; omega) _
                  exact h2.grown hgr7 h2.size (fun j hj => by cases hj; exact Nat.le_succ _)
                clear hown7 hgr7 hBk hMp hW6
                go_wp2
                go_roundw
                case rel => exact ⟨k + 1, b2, sv2, _, by omega, by go_num, HT7, HI3, HN3, HB7⟩
                case measure => simp [intOf]; omega
          · simp only at hw1
            subst hw1
            have hrg := kIx_range HI.out hkk hkx
            have hid40 : id ≤ 1000000 := by have := HI.out.gn; have := HN.out; simp only at hrg; omega
            have hid1 : 1 ≤ id := hrg.1
            have HLP : Hid (LastD (D.put (.int .i64 id) (evL ⟨id, item, kind, qty, price, ofI, day⟩)) b2) := by
              have := last_corr HI.out HL.out hkk hkx ⟨id0, item, kind, qty, price, ofI, day⟩
              rw [hb2]; exact this
            obtain ⟨W3, hW3⟩ : ∃ W, W = w2.alloc (.cells #[.int .i64 id, .string item, .int .i64 kind, .int .i64 qty, .int .i64 price, .int .i64 ofI, .int .i64 day] 34) := ⟨_, rfl⟩
            have L3 : Below w2.heap.size w2 W3 := by rw [hW3]; exact (Below.refl _ _).alloc (Nat.le_refl _) _
            have HM3 : Hid (W3.ownsMap Tryd.prog 3 evElem (w1.heap.size + 1) k D) := map_below HM2.out L3
            have hkey2 : keyOf Tryd.prog 3 (.int .i64 id) = some (.int .i64 id) := key_int _ (wf_small (by omega) (by omega))
            have HW3 : Hid (W3 = _) := hW3
            have d0 : decide ((1 : Int) = 0) = false := by decide
            clear hW3 HT HI HN HB hb2 HS hC2 HL hr hl1 hkx hkk hrg
            go_wp2_with (at_mapUpdate; refine wpList_mapUpdate_own _ rfl _ _ _ 43 rfl 3 34 law_intT Tryd.underlying43 evElem (w1.heap.size + 1) k D rfl ?own (by unfold maxLen; omega) _ _ _ rfl rfl hkey2 _ [] (evElem_mk ⟨id, item, kind, qty, price, ofI, day⟩) ?_)
            case own => exact HM2.out.alloc _
            intro w7 hown7 hgr7
            rw [← HW3.out] at hgr7
            have HT7 : Hid (TruthAt w7 w1.heap.size w1.heap.size (w1.heap.size + 1) sv2 b2 (k + 1) (D.put (.int .i64 id) (evL ⟨id, item, kind, qty, price, ofI, day⟩))) := TruthAt.put (H2.below L3) HM3.out hgr7 hown7 (Nat.le_succ _) HLP.out
            have HB7 : Hid (Below w1.heap.size w1 w7) := by
              have h2 : Below w1.heap.size w1 W3 := HB2.out.trans (L3.mono HB2.out.size)
              exact h2.grown hgr7 h2.size (fun j hj => by cases hj; exact Nat.le_succ _)
            clear hown7 hgr7
            go_wp2
            go_roundw
            case rel => exact ⟨k + 1, b2, sv2, _, by omega, by go_num, HT7, HI3, HN3, HB7⟩
            case measure => simp [intOf]; omega
          · simp only at hw2
            subst hw2
            have hrg := kIx_range HI.out hkk hkx
            have hid40 : id ≤ 1000000 := by have := HI.out.gn; have := HN.out; simp only at hrg; omega
            have hid1 : 1 ≤ id := hrg.1
            have HLP : Hid (LastD (D.put (.int .i64 id) (evL ev0)) b2) := by
              have := last_void HI.out HL.out hkk hkx
              rw [hb2]; exact this
            obtain ⟨W3, hW3⟩ : ∃ W, W = w2.alloc (.cells #[.int .i64 id0, .string item, .int .i64 kind, .int .i64 qty, .int .i64 price, .int .i64 ofI, .int .i64 day] 34) := ⟨_, rfl⟩
            have L3 : Below w2.heap.size w2 W3 := by rw [hW3]; exact (Below.refl _ _).alloc (Nat.le_refl _) _
            have HM3 : Hid (W3.ownsMap Tryd.prog 3 evElem (w1.heap.size + 1) k D) := map_below HM2.out L3
            have hkey2 : keyOf Tryd.prog 3 (.int .i64 id) = some (.int .i64 id) := key_int _ (wf_small (by omega) (by omega))
            have HW3 : Hid (W3 = _) := hW3
            clear hW3 HT HI HN HB hb2 HS hC2 HL hkx hkk hrg
            go_wp2_with (at_mapUpdate; refine wpList_mapUpdate_own _ rfl _ _ _ 43 rfl 3 34 law_intT Tryd.underlying43 evElem (w1.heap.size + 1) k D rfl ?own (by unfold maxLen; omega) _ _ _ rfl rfl hkey2 _ [] (evElem_mk ev0) ?_)
            case own => exact HM2.out.alloc _
            intro w7 hown7 hgr7
            rw [← HW3.out] at hgr7
            have HT7 : Hid (TruthAt w7 w1.heap.size w1.heap.size (w1.heap.size + 1) sv2 b2 (k + 1) (D.put (.int .i64 id) (evL ev0))) := TruthAt.put (H2.below L3) HM3.out hgr7 hown7 (Nat.le_succ _) HLP.out
            have HB7 : Hid (Below w1.heap.size w1 w7) := by
              have h2 : Below w1.heap.size w1 W3 := HB2.out.trans (L3.mono HB2.out.size)
              exact h2.grown hgr7 h2.size (fun j hj => by cases hj; exact Nat.le_succ _)
            clear hown7 hgr7
            go_wp2
            go_roundw
            case rel => exact ⟨k + 1, b2, sv2, _, by omega, by go_num, HT7, HI3, HN3, HB7⟩
            case measure => simp [intOf]; omega
      · have hkl : k = l.length := by omega
        subst hkl
        obtain ⟨WS, rfl⟩ : ∃ x, x = wr := ⟨_, rfl⟩
        go_wp2_with (at_range; refine wpList_range_own _ rfl _ 43 rfl 3 34 law_intT Tryd.underlying43 evElem (w1.heap.size + 1) l.length D rfl HT.out.map ?_)
        intro wR hrg0 hg0 hs0
        have HR0 : Hid (wR.ranges Tryd.prog 3 evElem (w1.heap.size + 1) WS.heap.size l.length D (Maps.has D) (Maps.size D)) := hrg0
        have HB0 : Hid (Below WS.heap.size WS wR) := ⟨hg0.os, hg0.tape, hg0.output, hg0.size, fun j hj => hg0.block j hj (by simp)⟩
        have HSZ : Hid (Maps.size D ≤ l.length) := HT.out.map.size_le
        have HG0 : Hid (Gath b (Maps.has D) []) := gath_start HI.out HT.out.last
        have hmbS : w1.heap.size + 1 < WS.heap.size := HT.out.map.lt
        clear hrg0 hg0
        go_wp2
        go_loopw [11] (fun v wr => ∃ (left : Lit → Bool) (cnt : Nat) (acc : List Ev), Hid (wr.ranges Tryd.prog 3 evElem (w1.heap.size + 1) WS.heap.size l.length D left cnt) ∧ Hid (wr.ownsRow WS.heap.size 34 7 v acc.length (acc.flatMap evC)) ∧ Hid (Gath b left acc) ∧ Hid (acc.length + cnt ≤ 1000) ∧ Hid (∀ kl, left kl = true → Maps.has D kl = true) ∧ Hid (Below WS.heap.size WS wr))
          (fun _ wr => wr.rangeLeft (w1.heap.size + 1) WS.heap.size)
        case atStart => exact ⟨_, _, [], HR0, World.ownsRow_nil _ _ _ _, HG0, (by have := HSZ.out; show _ ≤ _; simp; omega), fun _ h => h, HB0⟩
        case round =>
          obtain ⟨left, cnt, acc, HR, HO, HG, HC, HH, HBr⟩ := hrel
          go_wp2_with (at_next; refine wpList_next_ev _ rfl _ rfl 3 law_intT Tryd.underlying3 (w1.heap.size + 1) WS.heap.size l.length D left cnt rfl HR.out ?_ ?_)
          · intro hc0 hl0
            have HSR : Hid (srt acc = srt (asOf b b.n)) := gath_end HI.out HG.out hl0
            have hsl : acc.length ≤ 1000000 := by have := HC.out; omega
            have hsort := sortf_any HO.out hsl
            have hrow : ∀ j, u11.ownBlock = some j → WS.heap.size ≤ j := fun j hj => (HO.out.lt j hj).1
            have hl2 : b.vs.length ≤ 1000000 := by have := HI.out.full; omega
            clear hl0 hc0
            go_wp2_with fail
            refine hsort.mono ?_
            rintro e w5 ⟨rfl, O5, G5⟩
            have HB5 : Hid (Below WS.heap.size WS w5) := HBr.out.grown G5 HBr.out.size hrow
            have HT5 : Hid (TruthAt w5 w1.heap.size w1.heap.size (w1.heap.size + 1) sv b l.length D) := HT.out.below HB5.out
            have ha := as_any HT5.out.book hl2 (-1)
            rw [show tOf b (-1) = b.n by rw [tOf, if_pos (by decide)], ← HSR.out] at ha
            have HO5 : Hid (w5.ownsRow WS.heap.size 34 7 u11 acc.length ((srt acc).flatMap evC)) := O5
            clear hsort O5 G5
            go_wp2_with fail
            refine ha.mono ?_
            rintro e w6 ⟨v6, rfl, O6, L6⟩
            have O6' : w6.ownsRow WS.heap.size 34 7 u11 (srt acc).length ((srt acc).flatMap evC) := by
              rw [srt_len]; exact own_below HO5.out L6 (Nat.le_refl _)
            have heq := eq_same O6 O6'
            have HB6 : Hid (Below WS.heap.size WS w6) := HB5.out.trans (L6.mono HB5.out.size)
            clear ha O6 O6' L6
            go_wp2_with fail
            refine heq.mono ?_
            rintro e w7 ⟨rfl, L7⟩
            have HB7 : Below WS.heap.size WS w7 := HB6.out.trans (L7.mono HB6.out.size)
            clear heq
            go_wp2
            go_ret
            exact ⟨rfl, (HBW.out.trans (HB.out.mono HBW.out.size)).trans (HB7.mono (Nat.le_trans HBW.out.size HB.out.size))⟩
          · intro x e w3 cnt3 hlk hat hrg3 hlt3 hg3 hs3 hen
            have HL3 : Hid (LastIs b x e) := last_at HT.out.last (HH.out _ hlk) hat
            have HG3 : Hid (Gath b (fun z => left z && !z.sameKey (.int .i64 x)) (if 0 < e.id then acc ++ [e] else acc)) := gath_step HI.out HG.out hlk HL3.out
            have HH3 : Hid (∀ kl, (left kl && !kl.sameKey (.int .i64 x)) = true → Maps.has D kl = true) := fun kl h => HH.out kl (by simp at h; exact h.1)
            have HO3 : Hid (w3.ownsRow WS.heap.size 34 7 u11 acc.length (acc.flatMap evC)) := own_grown HO.out hg3 (fun g eg => by injection eg with eg; rw [← eg]; exact own_ne_iter HO.out HR.out)
            have HB3 : Hid (Below WS.heap.size WS w3) := HBr.out.grown hg3 HBr.out.size (fun j hj => by injection hj with hj; omega)
            have HR3 : Hid (w3.ranges Tryd.prog 3 evElem (w1.heap.size + 1) WS.heap.size l.length D (fun z => left z && !z.sameKey (.int .i64 x)) cnt3) := hrg3
            have HC3 : Hid (acc.length + 1 + cnt3 ≤ 1000) := by have := HC.out; show _ ≤ _; omega
            have HLT : Hid (cnt3 < cnt) := hlt3
            clear hlk hat hrg3 hlt3 hg3 hs3 HL3 HO HBr HG HC HH
            obtain ⟨id1, item1, kind1, qty1, price1, ofI1, day1⟩ := e
            simp only at hen HG3 ⊢
            by_cases hid : 0 < id1
            · rw [if_pos hid] at HG3
              have hacl : acc.length ≤ 1000 := by have := HC3.out; omega
              have hS3 := HB3.out.size
              go_wp2_with (first
                | (at_builtin; refine wpList_append_own _ rfl _ _ 37 rfl WS.heap.size 34 i0 evZ 7 64 Tryd.underlying37 hi hz0 hz1 hz2 rfl (by decide) _ _ _ rfl ((HO3.out.alloc _).alloc _) ⟨w3.heap.size + 1, 0, none⟩ 1 1 (evC ⟨id1, item1, kind1, qty1, price1, ofI1, day1⟩) rfl rfl ?d1 ?d2 ?d3 ?d4 ?d5 ?_)
                | go_in)
              case d1 => first | exact fun _ _ h => h | exact cells_of_list (w := w3.alloc _) (b := w3.heap.size + 1) (by simp)
              case d2 => exact evC_one _
              case d3 => unfold maxLen; omega
              case d4 => omega
              case d5 => simp; omega
              intro v' w5 hown5 hgr5 _
              have n1 := own_ne_map HO3.out HR3.out.owns
              have n2 := own_ne_iter HO3.out HR3.out
              have HR5 : Hid (w5.ranges Tryd.prog 3 evElem (w1.heap.size + 1) WS.heap.size l.length D (fun z => left z && !z.sameKey (.int .i64 x)) cnt3) := ((HR3.out.alloc _).alloc _).kept hgr5 (fun e => n1 e.symm) (fun e => n2 e.symm)
              have HO5 : Hid (w5.ownsRow WS.heap.size 34 7 v' (acc ++ [(⟨id1, item1, kind1, qty1, price1, ofI1, day1⟩ : Ev)]).length ((acc ++ [(⟨id1, item1, kind1, qty1, price1, ofI1, day1⟩ : Ev)]).flatMap evC)) := by
                rw [flatMap_snoc, List.length_append]; exact hown5
              have HB5 : Hid (Below WS.heap.size WS w5) := ((HB3.out.alloc hS3 _).alloc (by simp; omega) _).grown hgr5 (by simp; omega) (fun j hj => (HO3.out.lt j hj).1)
              clear hown5 hgr5 n1 n2
              go_wp2
              go_roundw
              case rel => exact ⟨_, cnt3, _, HR5, HO5, HG3, (by have := HC3.out; show _ ≤ _; rw [List.length_append]; simp; omega), HH3, HB5⟩
              case measure => rw [HR5.out.left_eq, HR.out.left_eq]; exact HLT.out
            · rw [if_neg hid] at HG3
              have hS3 := HB3.out.size
              go_wp2
              go_roundw
              case rel => exact ⟨_, cnt3, acc, HR3.out.alloc _, HO3.out.alloc _, HG3, (by have := HC3.out; show _ ≤ _; omega), HH3, HB3.out.alloc hS3 _⟩
              case measure => rw [(HR3.out.alloc _).left_eq, HR.out.left_eq]; exact HLT.out
end Go.Proofs.YtihkeblhidflpaaDoor
