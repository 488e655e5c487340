/- The walk of tallymankeep.PeriodWhole. -/
import Derived.Test.YtmldaiofghpfdaaGreatDoorPerShut
import Derived.Test.YtmldaiofghpfdaaGreatDoorBnCl
import Derived.Test.YtmldaiofghpfdaaGreatDoorBnAct
namespace Go.Proofs.YtmldaiofghpfdaaGreatDoor.periodWhole
open Go.Proofs.YtmldaiofghpfdaaGreatDoor
open Go.RowKit Go.Maps
theorem below_boxW {w W : World} {g : Nat} (h : Below w.heap.size w W) (hg : w.heap.size ≤ g) (f : Fig) : Below w.heap.size w (set5 W g f) :=
  ⟨(set5_oth _ _ _).1.trans h.os, (set5_oth _ _ _).2.1.trans h.tape, (set5_oth _ _ _).2.2.trans h.output, by rw [set5_size]; exact h.size, fun j hj => by rw [set5_other _ _ _ (by omega)]; exact h.block j hj⟩
/-- A book, closes, and what was told of them last. -/
structure WhAt (w : World) (B pb pp : Nat) (sv cv wv : Value) (b : Bk) (cs ws : List Cl) : Prop where
  both : BothAt w B pb pp sv cv b cs
  row : w.ownsRow B 71 7 wv ws.length (ws.flatMap clC)
  d1 : wv.ownBlock ≠ some pb
  d2 : wv.ownBlock ≠ some pp
  d3 : ∀ g, sv.ownBlock = some g → wv.ownBlock ≠ some g
  d4 : ∀ g, cv.ownBlock = some g → wv.ownBlock ≠ some g
theorem WhAt.below {w w' : World} {B pb pp : Nat} {sv cv wv : Value} {b : Bk} {cs ws : List Cl} (h : WhAt w B pb pp sv cv wv b cs ws) (hb : Below w.heap.size w w') : WhAt w' B pb pp sv cv wv b cs ws :=
  ⟨h.both.below hb, own_below h.row hb (Nat.le_refl _), h.d1, h.d2, h.d3, h.d4⟩
theorem WhAt.book {w w' : World} {B pb pp : Nat} {sv cv wv sv' : Value} {b b' : Bk} {cs ws : List Cl} (h : WhAt w B pb pp sv cv wv b cs ws) (H : BookAt w' B pb sv' b') (T : Turned w w' pb sv) (F : Fresh w sv sv') : WhAt w' B pb pp sv' cv wv b' cs ws := by
  refine ⟨h.both.book H T F, row_same h.row fun k hk => T.block k ((h.row.lt k hk).2) (fun x => h.d1 (x ▸ hk)) (fun x => h.d3 k x hk), h.d1, h.d2, fun g hg e => ?_, h.d4⟩
  rcases F g hg with x | x
  · exact h.d3 g x e
  · have := (h.row.lt g e).2; omega
theorem WhAt.closes {w w' : World} {B pb pp : Nat} {sv cv wv cv' : Value} {b : Bk} {cs cs' ws : List Cl} (h : WhAt w B pb pp sv cv wv b cs ws) (H : PerAt w' B pp cv' cs') (T : Turned w w' pp cv) (F : Fresh w cv cv') : WhAt w' B pb pp sv cv' wv b cs' ws := by
  refine ⟨h.both.closes H T F, row_same h.row fun k hk => T.block k ((h.row.lt k hk).2) (fun x => h.d2 (x ▸ hk)) (fun x => h.d4 k x hk), h.d1, h.d2, h.d3, fun g hg e => ?_⟩
  rcases F g hg with x | x
  · exact h.d4 g x e
  · have := (h.row.lt g e).2; omega
/-- What is told now. -/
theorem WhAt.told {w w' : World} {B pb pp : Nat} {sv cv wv nv : Value} {b : Bk} {cs ws : List Cl} (h : WhAt w B pb pp sv cv wv b cs ws) (hB : B ≤ w.heap.size) (hb : Below w.heap.size w w') (hr : w'.ownsRow w.heap.size 71 7 nv cs.length (cs.flatMap clC)) : WhAt w' B pb pp sv cv nv b cs cs := by
  refine ⟨h.both.below hb, own_low hr hB, fun e => ?_, fun e => ?_, fun g hg e => ?_, fun g hg e => ?_⟩
  · have := (hr.lt _ e).1; have := h.both.bk.lt; omega
  · have := (hr.lt _ e).1; have := h.both.pr.lt; omega
  · have := (hr.lt _ e).1; have := (h.both.bk.own.lt g hg).2; omega
  · have := (hr.lt _ e).1; have := (h.both.pr.own.lt g hg).2; omega
theorem cls_of_own {w : World} {B : Nat} {ad : Option Addr} {n cap : Nat} {l t : List Cl} (h : w.ownsRow B 71 7 (.slice ad n cap) n ((l ++ t).flatMap clC)) (hn : n = (l ++ t).length) : ClsAt w ad l := fun hp => by
  subst hn
  rcases own_form h with ⟨_, z2, _⟩ | ⟨g, cp, e, _⟩
  · rw [List.length_append] at z2; omega
  · simp only [Value.slice.injEq] at e
    obtain ⟨rfl, _, rfl⟩ := e
    refine ⟨g, rfl, fun k hk j hj => ?_⟩
    rw [(own_cell clC_len h k j (by rw [List.length_append]; omega) hj).1, List.getElem_append_left hk]
set_option maxRecDepth 20000 in
set_option maxHeartbeats 8000000 in
theorem walk (l : List Ac) (ao : Option Addr) (cap : Nat) (zs : List Int) (az : Option Addr) (capz : Nat) (w : World) (h : ActsAt w ao l) (hz : IntsAt w az zs) (hm : l.length ≤ maxLen) (hmz : zs.length ≤ maxLen) (hg : ErrType w) (ht : LenTab w) :
    Calls Tryz.prog 4 #[.slice ao l.length cap, .slice az zs.length capz] w fun r w' => r = .returned (.bool true) ∧ Below w.heap.size w w' := by
  have hsm := small_any l ao cap w h hm
  have hsh := shut_any w hg ht
  have HG : Hid (ErrType w) := hg
  have HT : Hid (LenTab w) := ht
  clear hg ht
  unfold maxLen at hm hmz
  go_enter Tryz.func4, Tryz.ntmps4
  go_wp2_with fail
  refine hsm.mono ?_
  rintro e w0 ⟨⟨bb, rfl, hbb⟩, rfl⟩
  clear hsm
  cases bb with
  | false =>
    clear hsh
    go_wp2
    go_ret
    exact ⟨rfl, Below.refl _ _⟩
  | true =>
    have h40 : l.length ≤ 40 := hbb rfl
    clear hbb
    by_cases hz40 : 40 < zs.length
    · clear hsh
      go_wp2
      go_ret
      exact ⟨rfl, Below.refl _ _⟩
    · have hz4 : zs.length ≤ 40 := by omega
      go_wp2_with fail
      refine hsh.mono ?_
      rintro e w1 ⟨rfl, hb1⟩
      clear hsh
      have HA : Hid (ActsAt w1 ao l) := h.below hb1 (Nat.le_refl _)
      have HZ : Hid (IntsAt w1 az zs) := hz.below hb1 (Nat.le_refl _)
      have HBW : Hid (Below w0.heap.size w0 w1) := hb1
      have HT1 : Hid (LenTab w1) := HT.out.below hb1
      clear hb1 h hz
      obtain ⟨W2, hW2⟩ : ∃ W, W = (w1.alloc (.cells #[.slice none 0 0, .int .i64 0, .int .i64 0] 27)).alloc (.cells #[.slice none 0 0] 30) := ⟨_, rfl⟩
      have HS0 : Hid (WhAt W2 w1.heap.size w1.heap.size (w1.heap.size + 1) (.slice none 0 0) (.slice none 0 0) (.slice none 0 0) bk0 [] []) := by
        have hp := per_new (w1.alloc (.cells #[.slice none 0 0, .int .i64 0, .int .i64 0] 27)) w1.heap.size (by simp)
        show WhAt _ _ _ _ _ _ _ _ _ _
        rw [hW2]
        refine ⟨⟨(book_new w1 w1.heap.size (Nat.le_refl _)).below ((Below.refl _ _).alloc (Nat.le_refl _) _), by simpa using hp, by omega, by simp [Value.ownBlock], by simp [Value.ownBlock], by simp [Value.ownBlock]⟩, World.ownsRow_nil _ _ _ _, by simp [Value.ownBlock], by simp [Value.ownBlock], by simp [Value.ownBlock], by simp [Value.ownBlock]⟩
      have HB2 : Hid (Below w1.heap.size w1 W2) := by show Below _ _ _; rw [hW2]; exact ((Below.refl _ _).alloc (Nat.le_refl _) _).alloc (by simp) _
      have HW2 : Hid (W2 = _) := hW2
      clear hW2
      go_wp2_with fail
      rw [← HW2.out]
      clear HW2
      obtain ⟨n, hn⟩ : ∃ n, n = max l.length zs.length := ⟨_, rfl⟩
      have hn1 : l.length ≤ n := by omega
      have hn2 : zs.length ≤ n := by omega
      have hn3 : n ≤ 40 := by omega
      have HN0 : Hid (n = max l.length zs.length) := hn
      clear hn hm hmz
      go_loopw [7, 8] (fun wv i wr => ∃ (k : Nat) (b : Bk) (sv cv : Value) (cs : List Cl), k ≤ n ∧ i = .int .i64 k ∧ Hid (WhAt wr w1.heap.size w1.heap.size (w1.heap.size + 1) sv cv wv b cs cs) ∧ Hid (Inv b) ∧ Hid (CInv b cs) ∧ Hid (b.n ≤ k ∧ cs.length ≤ k) ∧ Hid (Below w1.heap.size w1 wr))
        (fun _ i _ => n - (intOf i).toNat)
      case atStart => exact ⟨0, bk0, _, _, [], Nat.zero_le _, rfl, HS0, inv_zero, cinv_zero _, ⟨Int.le_refl _, Nat.le_refl _⟩, HB2⟩
      case round =>
        obtain ⟨k, b, sv, cv, cs, hk, rfl, HS, HI, HC, HN, HB⟩ := hrel
        by_cases hkn : k < n
        · have hknz : (k : Int) < max (l.length : Int) (zs.length : Int) := by have := HN0.out; omega
          by_cases hkl : k < l.length
          · obtain ⟨ab, off, rfl, hab, hc⟩ := HA.out.2 (by omega)
            have hcw : ∀ j, j < 9 → wr.cell? ⟨ab, off + k * 9 + j, none⟩ = (acC l[k])[j]? := fun j hj => by
              rw [HB.out.cell (p := ⟨ab, off + k * 9 + j, none⟩) hab]; exact hc k hkl j hj
            have hew : EvW l[k].e := HA.out.1 _ (List.getElem_mem hkl)
            obtain ⟨x, hx⟩ : ∃ x, x = l[k] := ⟨_, rfl⟩
            rw [← hx] at hcw hew
            clear hx
            have hbk : BkOk b := HI.out.ok (by have := HN.out.1; omega)
            have hac := act_any HS.out.both.bk hbk x hew
            have HST : Hid (∀ b', StepA b x b' → Inv b' ∧ CInv b' cs ∧ b'.n = b.n + 1) := fun b' hs => ⟨inv_step HI.out hew (by have := HN.out.1; omega) hs, cinv_act HC.out HI.out hs, step_n hs⟩
            have HSA : Hid (∀ b' c, DoesA b x c b' → (c ≠ 0 ∧ b' = b) ∨ (c = 0 ∧ StepA b x b')) := fun b' c hd => hd
            obtain ⟨what, id, ⟨id0, item, kind, qty, price, ofI, day⟩⟩ := x
            have q0 := hcw 0 (by omega)
            have q1 := hcw 1 (by omega)
            have q2 := hcw 2 (by omega)
            have q3 := hcw 3 (by omega)
            have q4 := hcw 4 (by omega)
            have q5 := hcw 5 (by omega)
            have q6 := hcw 6 (by omega)
            have q7 := hcw 7 (by omega)
            have q8 := hcw 8 (by omega)
            simp only [acC, List.getElem?_cons_zero, List.getElem?_cons_succ, Nat.add_zero] at q0 q1 q2 q3 q4 q5 q6 q7 q8
            unfold acV at hac
            simp only at hac
            have hkz : (k : Int) < (l.length : Int) := by omega
            clear hcw hc hbk
            go_wp2_with fail
            refine hac.mono ?_
            rintro e w2 ⟨c2, b3, sv3, rfl, hd2, H2, T2, F2⟩
            have hd' := HSA.out b3 c2 hd2
            have HS2 : Hid (WhAt w2 w1.heap.size w1.heap.size (w1.heap.size + 1) sv3 cv u7 b3 cs cs) := HS.out.book H2 T2 F2
            have HB2x : Hid (Below w1.heap.size w1 w2) := T2.below HS.out.both.bk HB.out HB.out.size
            have HI3 : Hid (Inv b3) := by
              rcases hd' with ⟨_, e⟩ | ⟨_, hs⟩
              · rw [e]; exact HI
              · exact (HST.out b3 hs).1
            have HC2 : Hid (CInv b3 cs) := by
              rcases hd' with ⟨_, e⟩ | ⟨_, hs⟩
              · rw [e]; exact HC
              · exact (HST.out b3 hs).2.1
            have HN2 : Hid (b3.n ≤ ((k + 1 : Nat) : Int)) := by
              have h0 := HN.out.1
              rcases hd' with ⟨_, e⟩ | ⟨_, hs⟩
              · rw [e]; show _ ≤ _; omega
              · have := (HST.out b3 hs).2.2; show _ ≤ _; omega
            clear hac hd2 hd' H2 T2 F2 HST HSA q0 q1 q2 q3 q4 q5 q6 q7 q8 hew hkz
            generalize errV c2 = ev2
            by_cases hkc : k < zs.length
            · obtain ⟨zb, zo, hze, hzb, hzc⟩ := (show IntsAt w1 az zs from HZ.out) (by omega)
              have hzd := hzc k hkc
              obtain ⟨zk, hzk⟩ : ∃ z, z = zs[k] := ⟨_, rfl⟩
              rw [← hzk] at hzd
              have hzw : w2.cell? ⟨zb, zo + k, none⟩ = some (.int .i64 zk) := (HB2x.out.cell (p := ⟨zb, zo + k, none⟩) hzb).trans hzd
              subst hze
              clear hzk hzd hzc
              have hcl := close_any HS2.out.both.pr HS2.out.both.bk HI3.out (HT1.out.below HB2x.out) (by have := HN.out.2; omega) zk
              have hkcz : (k : Int) < (zs.length : Int) := by omega
              go_wp2_with fail
              refine hcl.mono ?_
              rintro e w3 ⟨F3, c3, cs3, cv3, rfl, hd3, P3, T3, F3'⟩
              have HS3 : Hid (WhAt w3 w1.heap.size w1.heap.size (w1.heap.size + 1) sv3 cv3 u7 b3 cs3 cs) := HS2.out.closes P3 T3 F3'
              have hci := cinv_close HC2.out HI3.out hd3
              have HC3 : Hid (CInv b3 cs3) := hci.1
              have HP3 : Hid (∃ t, cs3 = cs ++ t ∧ t.length ≤ 1) := hci.2
              have HN3 : Hid (b3.n ≤ ((k + 1 : Nat) : Int) ∧ cs3.length ≤ k + 1) := ⟨HN2.out, by
                obtain ⟨t, e, ht⟩ := hci.2
                rw [e, List.length_append]; have := HN.out.2; omega⟩
              have HB3 : Hid (Below w1.heap.size w1 w3) := per_below T3 HS2.out.both.pr HB2x.out HB2x.out.size
              clear hcl hd3 P3 T3 F3' hci hzw
              generalize figV F3 = fv3
              generalize errV c3 = ev3
              have hcd := closed_any HS3.out.both.pr (by have := HN3.out.2; omega)
              go_wp2_with fail
              refine hcd.mono ?_
              rintro e w4 ⟨nv, rfl, hown4, hb4⟩
              have hB3z := HB3.out.size
              have hS4 := HS3.out.told hB3z hb4 hown4
              have hold := own_below HS3.out.row hb4 (Nat.le_refl _)
              obtain ⟨t, htt, _⟩ := HP3.out
              obtain ⟨an, cn, hnv⟩ := own_lenN hown4
              subst hnv
              obtain ⟨aw, cw, hwv⟩ := own_lenN HS3.out.row
              subst hwv
              have hlc : cs.length ≤ cs3.length := by rw [htt, List.length_append]; omega
              have hcn : cs3.length ≤ cn := by
                rcases own_form hown4 with ⟨x1, x2, _⟩ | ⟨_, _, x1, _, _, x2, _⟩
                · rw [x2]; exact Nat.zero_le _
                · simp only [Value.slice.injEq] at x1
                  rw [x1.2.2]; exact x2
              have hc3 : cs3.length ≤ 41 := by have := HN3.out.2; omega
              have heq := eqCl_any cs an aw cn cw w4 (cls_of_own (t := t) (by rw [← htt]; exact hown4) (by rw [htt])) (cls_of_own (t := []) (by rw [List.append_nil]; exact hold) (by rw [List.append_nil])) (by omega)
              have hlz : ¬ ((cs3.length : Int) < (cs.length : Int)) := by omega
              have HS4 : Hid (WhAt w4 w1.heap.size w1.heap.size (w1.heap.size + 1) sv3 cv3 (.slice an cs3.length cn) b3 cs3 cs3) := hS4
              have HB4 : Hid (Below w1.heap.size w1 w4) := HB3.out.trans (hb4.mono hB3z)
              clear hcd hown4 hb4 hS4 hold htt
              go_wp2_with fail
              refine heq.mono ?_
              rintro e w5 ⟨rfl, j5, hw5⟩
              have hb5 : Below w4.heap.size w4 w5 := by rw [hw5]; exact drew_same _ _
              have HS5 : Hid (WhAt w5 w1.heap.size w1.heap.size (w1.heap.size + 1) sv3 cv3 (.slice an cs3.length cn) b3 cs3 cs3) := HS4.out.below hb5
              have HB5 : Hid (Below w1.heap.size w1 w5) := HB4.out.trans (hb5.mono HB4.out.size)
              clear heq hw5 hb5
              go_wp2
              go_roundw
              case rel => exact ⟨k + 1, b3, _, _, cs3, by omega, by go_num, HS5, HI3, HC3, HN3, HB5⟩
              case measure => simp [intOf]; omega
            · have HS3 : Hid (WhAt w2 w1.heap.size w1.heap.size (w1.heap.size + 1) sv3 cv u7 b3 cs cs) := HS2
              obtain ⟨cs3, hcs3⟩ : ∃ c, c = cs := ⟨_, rfl⟩
              obtain ⟨cv3, hcv3⟩ : ∃ c, c = cv := ⟨_, rfl⟩
              have HP3 : Hid (∃ t, cs3 = cs ++ t ∧ t.length ≤ 1) := ⟨[], by rw [List.append_nil]; exact hcs3, by simp⟩
              have HS3 : Hid (WhAt w2 w1.heap.size w1.heap.size (w1.heap.size + 1) sv3 cv3 u7 b3 cs3 cs) := by rw [hcs3, hcv3]; exact HS2
              have HC3 : Hid (CInv b3 cs3) := by rw [hcs3]; exact HC2
              have HN3 : Hid (b3.n ≤ ((k + 1 : Nat) : Int) ∧ cs3.length ≤ k + 1) := ⟨HN2.out, by rw [hcs3]; have := HN.out.2; omega⟩
              have HB3 : Hid (Below w1.heap.size w1 w2) := HB2x
              have hkcz : ¬ (k : Int) < (zs.length : Int) := by omega
              clear hcs3 hcv3
              have hcd := closed_any HS3.out.both.pr (by have := HN3.out.2; omega)
              go_wp2_with fail
              refine hcd.mono ?_
              rintro e w4 ⟨nv, rfl, hown4, hb4⟩
              have hB3z := HB3.out.size
              have hS4 := HS3.out.told hB3z hb4 hown4
              have hold := own_below HS3.out.row hb4 (Nat.le_refl _)
              obtain ⟨t, htt, _⟩ := HP3.out
              obtain ⟨an, cn, hnv⟩ := own_lenN hown4
              subst hnv
              obtain ⟨aw, cw, hwv⟩ := own_lenN HS3.out.row
              subst hwv
              have hlc : cs.length ≤ cs3.length := by rw [htt, List.length_append]; omega
              have hcn : cs3.length ≤ cn := by
                rcases own_form hown4 with ⟨x1, x2, _⟩ | ⟨_, _, x1, _, _, x2, _⟩
                · rw [x2]; exact Nat.zero_le _
                · simp only [Value.slice.injEq] at x1
                  rw [x1.2.2]; exact x2
              have hc3 : cs3.length ≤ 41 := by have := HN3.out.2; omega
              have heq := eqCl_any cs an aw cn cw w4 (cls_of_own (t := t) (by rw [← htt]; exact hown4) (by rw [htt])) (cls_of_own (t := []) (by rw [List.append_nil]; exact hold) (by rw [List.append_nil])) (by omega)
              have hlz : ¬ ((cs3.length : Int) < (cs.length : Int)) := by omega
              have HS4 : Hid (WhAt w4 w1.heap.size w1.heap.size (w1.heap.size + 1) sv3 cv3 (.slice an cs3.length cn) b3 cs3 cs3) := hS4
              have HB4 : Hid (Below w1.heap.size w1 w4) := HB3.out.trans (hb4.mono hB3z)
              clear hcd hown4 hb4 hS4 hold htt
              go_wp2_with fail
              refine heq.mono ?_
              rintro e w5 ⟨rfl, j5, hw5⟩
              have hb5 : Below w4.heap.size w4 w5 := by rw [hw5]; exact drew_same _ _
              have HS5 : Hid (WhAt w5 w1.heap.size w1.heap.size (w1.heap.size + 1) sv3 cv3 (.slice an cs3.length cn) b3 cs3 cs3) := HS4.out.below hb5
              have HB5 : Hid (Below w1.heap.size w1 w5) := HB4.out.trans (hb5.mono HB4.out.size)
              clear heq hw5 hb5
              go_wp2
              go_roundw
              case rel => exact ⟨k + 1, b3, _, _, cs3, by omega, by go_num, HS5, HI3, HC3, HN3, HB5⟩
              case measure => simp [intOf]; omega
          · have hkz : ¬ (k : Int) < (l.length : Int) := by omega
            obtain ⟨sv3, hsv3⟩ : ∃ v, v = sv := ⟨_, rfl⟩
            obtain ⟨b3, hb3⟩ : ∃ v, v = b := ⟨_, rfl⟩
            have HS2 : Hid (WhAt wr w1.heap.size w1.heap.size (w1.heap.size + 1) sv3 cv u7 b3 cs cs) := by rw [hsv3, hb3]; exact HS
            have HB2x : Hid (Below w1.heap.size w1 wr) := HB
            have HI3 : Hid (Inv b3) := by rw [hb3]; exact HI
            have HC2 : Hid (CInv b3 cs) := by rw [hb3]; exact HC
            have HN2 : Hid (b3.n ≤ ((k + 1 : Nat) : Int)) := by rw [hb3]; have h0 := HN.out.1; show _ ≤ _; omega
            clear hsv3 hb3
            by_cases hkc : k < zs.length
            · obtain ⟨zb, zo, hze, hzb, hzc⟩ := (show IntsAt w1 az zs from HZ.out) (by omega)
              have hzd := hzc k hkc
              obtain ⟨zk, hzk⟩ : ∃ z, z = zs[k] := ⟨_, rfl⟩
              rw [← hzk] at hzd
              have hzw : wr.cell? ⟨zb, zo + k, none⟩ = some (.int .i64 zk) := (HB2x.out.cell (p := ⟨zb, zo + k, none⟩) hzb).trans hzd
              subst hze
              clear hzk hzd hzc
              have hcl := close_any HS2.out.both.pr HS2.out.both.bk HI3.out (HT1.out.below HB2x.out) (by have := HN.out.2; omega) zk
              have hkcz : (k : Int) < (zs.length : Int) := by omega
              go_wp2_with fail
              refine hcl.mono ?_
              rintro e w3 ⟨F3, c3, cs3, cv3, rfl, hd3, P3, T3, F3'⟩
              have HS3 : Hid (WhAt w3 w1.heap.size w1.heap.size (w1.heap.size + 1) sv3 cv3 u7 b3 cs3 cs) := HS2.out.closes P3 T3 F3'
              have hci := cinv_close HC2.out HI3.out hd3
              have HC3 : Hid (CInv b3 cs3) := hci.1
              have HP3 : Hid (∃ t, cs3 = cs ++ t ∧ t.length ≤ 1) := hci.2
              have HN3 : Hid (b3.n ≤ ((k + 1 : Nat) : Int) ∧ cs3.length ≤ k + 1) := ⟨HN2.out, by
                obtain ⟨t, e, ht⟩ := hci.2
                rw [e, List.length_append]; have := HN.out.2; omega⟩
              have HB3 : Hid (Below w1.heap.size w1 w3) := per_below T3 HS2.out.both.pr HB2x.out HB2x.out.size
              clear hcl hd3 P3 T3 F3' hci hzw
              generalize figV F3 = fv3
              generalize errV c3 = ev3
              have hcd := closed_any HS3.out.both.pr (by have := HN3.out.2; omega)
              go_wp2_with fail
              refine hcd.mono ?_
              rintro e w4 ⟨nv, rfl, hown4, hb4⟩
              have hB3z := HB3.out.size
              have hS4 := HS3.out.told hB3z hb4 hown4
              have hold := own_below HS3.out.row hb4 (Nat.le_refl _)
              obtain ⟨t, htt, _⟩ := HP3.out
              obtain ⟨an, cn, hnv⟩ := own_lenN hown4
              subst hnv
              obtain ⟨aw, cw, hwv⟩ := own_lenN HS3.out.row
              subst hwv
              have hlc : cs.length ≤ cs3.length := by rw [htt, List.length_append]; omega
              have hcn : cs3.length ≤ cn := by
                rcases own_form hown4 with ⟨x1, x2, _⟩ | ⟨_, _, x1, _, _, x2, _⟩
                · rw [x2]; exact Nat.zero_le _
                · simp only [Value.slice.injEq] at x1
                  rw [x1.2.2]; exact x2
              have hc3 : cs3.length ≤ 41 := by have := HN3.out.2; omega
              have heq := eqCl_any cs an aw cn cw w4 (cls_of_own (t := t) (by rw [← htt]; exact hown4) (by rw [htt])) (cls_of_own (t := []) (by rw [List.append_nil]; exact hold) (by rw [List.append_nil])) (by omega)
              have hlz : ¬ ((cs3.length : Int) < (cs.length : Int)) := by omega
              have HS4 : Hid (WhAt w4 w1.heap.size w1.heap.size (w1.heap.size + 1) sv3 cv3 (.slice an cs3.length cn) b3 cs3 cs3) := hS4
              have HB4 : Hid (Below w1.heap.size w1 w4) := HB3.out.trans (hb4.mono hB3z)
              clear hcd hown4 hb4 hS4 hold htt
              go_wp2_with fail
              refine heq.mono ?_
              rintro e w5 ⟨rfl, j5, hw5⟩
              have hb5 : Below w4.heap.size w4 w5 := by rw [hw5]; exact drew_same _ _
              have HS5 : Hid (WhAt w5 w1.heap.size w1.heap.size (w1.heap.size + 1) sv3 cv3 (.slice an cs3.length cn) b3 cs3 cs3) := HS4.out.below hb5
              have HB5 : Hid (Below w1.heap.size w1 w5) := HB4.out.trans (hb5.mono HB4.out.size)
              clear heq hw5 hb5
              go_wp2
              go_roundw
              case rel => exact ⟨k + 1, b3, _, _, cs3, by omega, by go_num, HS5, HI3, HC3, HN3, HB5⟩
              case measure => simp [intOf]; omega
            · exfalso
              have := HN0.out
              omega
        · obtain rfl : k = n := by omega
          have hknz : ¬ (k : Int) < max (l.length : Int) (zs.length : Int) := by have := HN0.out; omega
          have hcs : cs.length ≤ 40 := by have := HN.out.2; omega
          have hop := open_any HS.out.both.pr HS.out.both.bk HI.out (HT1.out.below HB.out) (by omega)
          obtain ⟨U, hU0⟩ : ∃ U, U = untl (srt (asOf b b.n)) 3300 := ⟨_, rfl⟩
          have HU : Hid (U = untl (srt (asOf b b.n)) 3300) := hU0
          have HUS : Hid (sumC (unp U cs) cs = U) := sum_unp cs U (by rw [hU0]; exact untl_ok _ _)
          rw [← hU0] at hop
          obtain ⟨X, hX⟩ : ∃ X, X = unp U cs := ⟨_, rfl⟩
          rw [← hX] at hop HUS
          clear hX hU0
          obtain ⟨X1, X2, X3, X4, X5⟩ := X
          unfold figV at hop
          simp only at hop
          go_wp2_with fail
          refine hop.mono ?_
          rintro e w3 ⟨rfl, hb3⟩
          clear hop
          have HSR : Hid (WhAt w3 w1.heap.size w1.heap.size (w1.heap.size + 1) sv cv u7 b cs cs) := HS.out.below hb3
          have HB3 : Hid (Below w1.heap.size w1 w3) := HB.out.trans (hb3.mono HB.out.size)
          obtain ⟨aw, cw, hwv⟩ := own_lenN HSR.out.row
          subst hwv
          obtain ⟨W4, hW4⟩ : ∃ W, W = w3.alloc (.cells #[.int .i64 X1, .int .i64 X2, .int .i64 X3, .int .i64 X4, .int .i64 X5] 38) := ⟨_, rfl⟩
          have hb4 : Below w3.heap.size w3 W4 := by rw [hW4]; exact (Below.refl _ _).alloc (Nat.le_refl _) _
          have HF4 : Hid (FigAt W4 w3.heap.size ⟨X1, X2, X3, X4, X5⟩) := by show FigAt _ _ _; rw [hW4]; constructor <;> simp
          have HW4 : Hid (W4 = _) := hW4
          clear hW4
          obtain ⟨wo, rfl⟩ : ∃ X, X = wr := ⟨_, rfl⟩
          obtain ⟨ko, rfl⟩ : ∃ X, X = k := ⟨_, rfl⟩
          clear hb3 HS HB HN HN0 hknz hkn hk hn1 hn2 hn3
          go_wp2_with fail
          rw [← HW4.out]
          clear HW4
          go_loopw [11] (fun i wr => ∃ k : Nat, k ≤ cs.length ∧ i = .int .i64 k ∧ Hid (FigAt wr w3.heap.size (sumC ⟨X1, X2, X3, X4, X5⟩ (cs.take k))) ∧ Hid (Below w3.heap.size w3 wr)) (fun i _ => cs.length - (intOf i).toNat)
          case atStart => exact ⟨0, Nat.zero_le _, rfl, HF4, hb4⟩
          case round =>
            obtain ⟨k, hk, rfl, HP, HB5⟩ := hrel
            by_cases hlt : k < cs.length
            · have hkz : (k : Int) < (cs.length : Int) := by omega
              rcases own_form HSR.out.row with ⟨_, a2, _⟩ | ⟨g, cp, e1, hg1, hg2, _⟩
              · omega
              · simp only [Value.slice.injEq] at e1
                obtain ⟨rfl, _, rfl⟩ := e1
                obtain ⟨x, hx⟩ : ∃ x, x = cs[k] := ⟨_, rfl⟩
                have HTK : Hid (sumC ⟨X1, X2, X3, X4, X5⟩ (cs.take (k + 1)) = (sumC ⟨X1, X2, X3, X4, X5⟩ (cs.take k)).plus x.posted) := by
                  show _ = _
                  rw [List.take_succ_eq_append_getElem hlt, sumC_append, hx]
                  rfl
                have hcm : ∀ (W : World) (_ : Below w3.heap.size w3 W) j, j < 7 → W.cell? ⟨g, k * 7 + j, none⟩ = (clC x)[j]? := fun W hb j hj => by
                  rw [hb.cell (p := ⟨g, k * 7 + j, none⟩) hg2, (own_cell clC_len HSR.out.row k j hlt hj).1, hx]
                have HPR : Hid (∀ k', k = k' + 1 → ∃ ym yt : Int, ym < x.month ∧ yt ≤ x.turn ∧ ∀ (W : World) (_ : Below w3.heap.size w3 W), W.cell? ⟨g, k' * 7, none⟩ = some (.int .i64 ym) ∧ W.cell? ⟨g, k' * 7 + 1, none⟩ = some (.int .i64 yt)) := fun k' hk' => by
                  have hk2 : k' < cs.length := by omega
                  refine ⟨cs[k'].month, cs[k'].turn, ?_, ?_, fun W hb => ⟨?_, ?_⟩⟩
                  · have := List.pairwise_iff_getElem.1 HC.out.asc k' k hk2 hlt (by omega)
                    rw [hx]; exact this
                  · have := List.pairwise_iff_getElem.1 HC.out.tur k' k hk2 hlt (by omega)
                    rw [hx]; exact this
                  · rw [hb.cell (p := ⟨g, k' * 7, none⟩) hg2]
                    have := (own_cell clC_len HSR.out.row k' 0 hk2 (by decide)).1
                    simpa [clC] using this
                  · rw [hb.cell (p := ⟨g, k' * 7 + 1, none⟩) hg2]
                    have := (own_cell clC_len HSR.out.row k' 1 hk2 (by decide)).1
                    simpa [clC] using this
                obtain ⟨xm, xt, x1, x2, x3, x4, x5⟩ := x
                simp only at HTK HPR
                have HC0 : Hid (∀ (W : World) (_ : Below w3.heap.size w3 W), W.cell? ⟨g, k * 7, none⟩ = some (.int .i64 xm)) := fun W hb => hcm W hb 0 (by decide)
                have HC1 : Hid (∀ (W : World) (_ : Below w3.heap.size w3 W), W.cell? ⟨g, k * 7 + 1, none⟩ = some (.int .i64 xt)) := fun W hb => hcm W hb 1 (by decide)
                have HC2 : Hid (∀ (W : World) (_ : Below w3.heap.size w3 W), W.cell? ⟨g, k * 7 + 2, none⟩ = some (.int .i64 x1)) := fun W hb => hcm W hb 2 (by decide)
                have HC3 : Hid (∀ (W : World) (_ : Below w3.heap.size w3 W), W.cell? ⟨g, k * 7 + 3, none⟩ = some (.int .i64 x2)) := fun W hb => hcm W hb 3 (by decide)
                have HC4 : Hid (∀ (W : World) (_ : Below w3.heap.size w3 W), W.cell? ⟨g, k * 7 + 4, none⟩ = some (.int .i64 x3)) := fun W hb => hcm W hb 4 (by decide)
                have HC5 : Hid (∀ (W : World) (_ : Below w3.heap.size w3 W), W.cell? ⟨g, k * 7 + 5, none⟩ = some (.int .i64 x4)) := fun W hb => hcm W hb 5 (by decide)
                have HC6 : Hid (∀ (W : World) (_ : Below w3.heap.size w3 W), W.cell? ⟨g, k * 7 + 6, none⟩ = some (.int .i64 x5)) := fun W hb => hcm W hb 6 (by decide)
                obtain ⟨P, hP⟩ : ∃ P, P = sumC ⟨X1, X2, X3, X4, X5⟩ (cs.take k) := ⟨_, rfl⟩
                rw [← hP] at HP HTK
                clear hcm hx hP
                obtain ⟨P1, P2, P3, P4, P5⟩ := P
                have mixed := csP.mixed
                rcases Nat.eq_zero_or_pos k with hk0 | hk0
                · have hkn : ¬ (0 : Int) < (k : Int) := by omega
                  have hkn2 : ¬ 0 < k := by omega
                  have hkn3 : decide (0 < k) = false := by simpa using hk0
                  clear hk0
                  go_wp2_with fail
                  refine wp_region_turn [(.read, 0), (.pure, 1), (.pure, 2), (.pure, 3), (.pure, 4), (.read, 5), (.make, 6), (.turn, 7)] (by kernel_rfl) (by kernel_rfl) ?_
                  obtain ⟨DS, hDS⟩ : ∃ X, X = wr.drew := ⟨_, rfl⟩
                  rw [← hDS]
                  have hbDS : Below wr.heap.size wr DS := by rw [hDS]; exact below_drew _
                  have hBDS : Below w3.heap.size w3 DS := HB5.out.trans (hbDS.mono HB5.out.size)
                  have hXS := HP.out.below hbDS
                  have hU := up_ne
                  have hA := anyW_ne
                  have p0 := fun n : Up DS => n.cell hXS.c0
                  have p1 := fun n : Up DS => n.cell hXS.c1
                  have p2 := fun n : Up DS => n.cell hXS.c2
                  have p3 := fun n : Up DS => n.cell hXS.c3
                  have p4 := fun n : Up DS => n.cell hXS.c4
                  have p5 := fun n : Up DS => n.cell (HC2.out DS hBDS)
                  have p6 := fun n : Up DS => n.cell (HC3.out DS hBDS)
                  have p7 := fun n : Up DS => n.cell (HC4.out DS hBDS)
                  have p8 := fun n : Up DS => n.cell (HC5.out DS hBDS)
                  have p9 := fun n : Up DS => n.cell (HC6.out DS hBDS)
                  simp only at p0 p1 p2 p3 p4
                  have hpl := plus_any ⟨P1, P2, P3, P4, P5⟩ ⟨x1, x2, x3, x4, x5⟩ DS
                  obtain ⟨S, hS⟩ : ∃ R, R = Fig.plus ⟨P1, P2, P3, P4, P5⟩ ⟨x1, x2, x3, x4, x5⟩ := ⟨_, rfl⟩
                  rw [← hS] at hpl HTK
                  obtain ⟨S1, S2, S3, S4, S5⟩ := S
                  unfold figV at hpl
                  simp only at hpl
                  clear hDS hS
                  repeat (first | refine turn_p rfl ?_ | refine turn_q rfl ?_); go_big_quiet_step (fail); refine wpQuiet_nil ?_
                  refine turn_n rfl ?_
                  clear p0 p1 p2 p3 p4 p5 p6 p7 p8 p9
                  go_wp2_with fail
                  refine hpl.mono ?_
                  rintro r vS ⟨rfl, hbvS⟩
                  clear hpl
                  have hXvS := hXS.below hbvS
                  have d0 := hXvS.c0
                  have d1 := hXvS.c1
                  have d2 := hXvS.c2
                  have d3 := hXvS.c3
                  have d4 := hXvS.c4
                  have e0 := hXvS.z0
                  have e1 := hXvS.z1
                  have e2 := hXvS.z2
                  have e3 := hXvS.z3
                  have e4 := hXvS.z4
                  simp only at d0 d1 d2 d3 d4
                  go_wp2_with fail
                  refine ⟨rfl, hbvS, ?_⟩
                  refine turn_t rfl ?_
                  go_wp2_with fail
                  refine ⟨rfl, ?_⟩
                  refine turn_nil ?_
                  obtain ⟨WS, hWS⟩ : ∃ X, X = set5 vS w3.heap.size ⟨S1, S2, S3, S4, S5⟩ := ⟨_, rfl⟩
                  have hPS : FigAt WS w3.heap.size ⟨S1, S2, S3, S4, S5⟩ := by rw [hWS]; exact hXvS.put _
                  have hBS : Below w3.heap.size w3 WS := by rw [hWS]; exact below_boxW (hBDS.trans (hbvS.mono hBDS.size)) (Nat.le_refl _) _
                  unfold set5 at hWS
                  simp only at hWS
                  rw [← hWS]
                  clear hWS hXS hXvS d0 d1 d2 d3 d4 e0 e1 e2 e3 e4 hbDS hBDS hbvS
                  go_wp2_with fail
                  go_quiet (fail)
                  obtain ⟨W6, hW6⟩ : ∃ X, X = WS.drewN nq := ⟨_, rfl⟩
                  have b6 : Below WS.heap.size WS W6 := by rw [hW6]; exact drew_same _ _
                  have hP6 := hPS.below b6
                  have hB6 : Below w3.heap.size w3 W6 := hBS.trans (b6.mono hBS.size)
                  rw [← hW6]
                  clear hW6
                  go_wp2
                  go_roundw
                  case rel => exact ⟨k + 1, by omega, by go_num, (by show FigAt _ _ _; rw [HTK.out]; exact hP6), hB6⟩
                  case measure => simp [intOf]; omega
                · obtain ⟨k', hk'⟩ : ∃ k', k = k' + 1 := ⟨k - 1, by omega⟩
                  obtain ⟨ym, yt, hym, hyt, hyc⟩ := HPR.out k' hk'
                  subst hk'
                  go_wp2_with fail
                  refine wp_region_turn [(.read, 0), (.pure, 1), (.pure, 2), (.pure, 3), (.pure, 4), (.read, 5), (.make, 6), (.turn, 7)] (by kernel_rfl) (by kernel_rfl) ?_
                  obtain ⟨DS, hDS⟩ : ∃ X, X = wr.drew := ⟨_, rfl⟩
                  rw [← hDS]
                  have hbDS : Below wr.heap.size wr DS := by rw [hDS]; exact below_drew _
                  have hBDS : Below w3.heap.size w3 DS := HB5.out.trans (hbDS.mono HB5.out.size)
                  have hXS := HP.out.below hbDS
                  have hU := up_ne
                  have hA := anyW_ne
                  have p0 := fun n : Up DS => n.cell hXS.c0
                  have p1 := fun n : Up DS => n.cell hXS.c1
                  have p2 := fun n : Up DS => n.cell hXS.c2
                  have p3 := fun n : Up DS => n.cell hXS.c3
                  have p4 := fun n : Up DS => n.cell hXS.c4
                  have p5 := fun n : Up DS => n.cell (HC2.out DS hBDS)
                  have p6 := fun n : Up DS => n.cell (HC3.out DS hBDS)
                  have p7 := fun n : Up DS => n.cell (HC4.out DS hBDS)
                  have p8 := fun n : Up DS => n.cell (HC5.out DS hBDS)
                  have p9 := fun n : Up DS => n.cell (HC6.out DS hBDS)
                  simp only at p0 p1 p2 p3 p4
                  have hpl := plus_any ⟨P1, P2, P3, P4, P5⟩ ⟨x1, x2, x3, x4, x5⟩ DS
                  obtain ⟨S, hS⟩ : ∃ R, R = Fig.plus ⟨P1, P2, P3, P4, P5⟩ ⟨x1, x2, x3, x4, x5⟩ := ⟨_, rfl⟩
                  rw [← hS] at hpl HTK
                  obtain ⟨S1, S2, S3, S4, S5⟩ := S
                  unfold figV at hpl
                  simp only at hpl
                  clear hDS hS
                  repeat (first | refine turn_p rfl ?_ | refine turn_q rfl ?_); go_big_quiet_step (fail); refine wpQuiet_nil ?_
                  refine turn_n rfl ?_
                  clear p0 p1 p2 p3 p4 p5 p6 p7 p8 p9
                  go_wp2_with fail
                  refine hpl.mono ?_
                  rintro r vS ⟨rfl, hbvS⟩
                  clear hpl
                  have hXvS := hXS.below hbvS
                  have d0 := hXvS.c0
                  have d1 := hXvS.c1
                  have d2 := hXvS.c2
                  have d3 := hXvS.c3
                  have d4 := hXvS.c4
                  have e0 := hXvS.z0
                  have e1 := hXvS.z1
                  have e2 := hXvS.z2
                  have e3 := hXvS.z3
                  have e4 := hXvS.z4
                  simp only at d0 d1 d2 d3 d4
                  go_wp2_with fail
                  refine ⟨rfl, hbvS, ?_⟩
                  refine turn_t rfl ?_
                  go_wp2_with fail
                  refine ⟨rfl, ?_⟩
                  refine turn_nil ?_
                  obtain ⟨WS, hWS⟩ : ∃ X, X = set5 vS w3.heap.size ⟨S1, S2, S3, S4, S5⟩ := ⟨_, rfl⟩
                  have hPS : FigAt WS w3.heap.size ⟨S1, S2, S3, S4, S5⟩ := by rw [hWS]; exact hXvS.put _
                  have hBS : Below w3.heap.size w3 WS := by rw [hWS]; exact below_boxW (hBDS.trans (hbvS.mono hBDS.size)) (Nat.le_refl _) _
                  unfold set5 at hWS
                  simp only at hWS
                  rw [← hWS]
                  clear hWS hXS hXvS d0 d1 d2 d3 d4 e0 e1 e2 e3 e4 hbDS hBDS hbvS
                  have q1 : ∀ j, (WS.drewN j).cell? ⟨g, k' * 7, none⟩ = some (.int .i64 ym) := fun j => (hyc _ (hBS.trans ((drew_same WS j).mono hBS.size))).1
                  have q2 : ∀ j, (WS.drewN j).cell? ⟨g, k' * 7 + 1, none⟩ = some (.int .i64 yt) := fun j => (hyc _ (hBS.trans ((drew_same WS j).mono hBS.size))).2
                  have q3 : ∀ j, (WS.drewN j).cell? ⟨g, (k' + 1) * 7, none⟩ = some (.int .i64 xm) := fun j => HC0.out _ (hBS.trans ((drew_same WS j).mono hBS.size))
                  have q4 : ∀ j, (WS.drewN j).cell? ⟨g, (k' + 1) * 7 + 1, none⟩ = some (.int .i64 xt) := fun j => HC1.out _ (hBS.trans ((drew_same WS j).mono hBS.size))
                  have hyn : ¬ (xm ≤ ym) := by omega
                  have htn : ¬ (xt < yt) := by omega
                  have hwk : IntKind.i64.wrap (k' : Int) = (k' : Int) := IntWalk.i64_in _ ⟨by omega, by omega⟩
                  have h0z : (0 : Int) ≤ (k' : Int) + 1 := by omega
                  have hk1 : k' < cs.length := by omega
                  have hk1z : (k' : Int) < (cs.length : Int) := by omega
                  have hk2z : (k' : Int) + 1 < (cs.length : Int) := by omega
                  go_wp2_with fail
                  go_quiet (fail)
                  clear q1 q2 q3 q4
                  obtain ⟨W6, hW6⟩ : ∃ X, X = WS.drewN nq := ⟨_, rfl⟩
                  have b6 : Below WS.heap.size WS W6 := by rw [hW6]; exact drew_same _ _
                  have hP6 := hPS.below b6
                  have hB6 : Below w3.heap.size w3 W6 := hBS.trans (b6.mono hBS.size)
                  rw [← hW6]
                  clear hW6
                  go_wp2
                  go_roundw
                  case rel => exact ⟨(k' + 1) + 1, by omega, by go_num, (by show FigAt _ _ _; rw [HTK.out]; exact hP6), hB6⟩
                  case measure => simp [intOf]; omega
            · obtain rfl : k = cs.length := by omega
              rw [List.take_length, HUS.out] at HP
              have hkz : ¬ (cs.length : Int) < (cs.length : Int) := by omega
              go_wp2_with fail
              refine wp_region_mix [(true, 0), (false, 1), (false, 2), (true, 3)] (by kernel_rfl) (by kernel_rfl) ?_
              obtain ⟨V1, hV1⟩ : ∃ X, X = wr.drew := ⟨_, rfl⟩
              rw [← hV1]
              have bV1 : Below wr.heap.size wr V1 := by rw [hV1]; exact below_drew _
              have hBV : Below w3.heap.size w3 V1 := HB5.out.trans (bV1.mono HB5.out.size)
              have hPV := HP.out.below bV1
              clear hV1
              have has := as_any ((HSR.out.below hBV).both.bk) (by have := HI.out.full; omega) (-1)
              rw [show tOf b (-1) = b.n from if_pos (by decide)] at has
              obtain ⟨hnd, hew, hln⟩ := now_ok HI.out
              obtain ⟨es, hes⟩ : ∃ es, es = srt (asOf b b.n) := ⟨_, rfl⟩
              rw [← hes] at has hnd hew hln HU
              have HES : Hid ((es.map (·.id)).Nodup ∧ (∀ e ∈ es, EvW e)) := ⟨hnd, hew⟩
              clear hes hnd hew
              obtain ⟨U1, U2, U3, U4, U5⟩ := U
              have hU := up_ne
              have p0 := fun n : Up V1 => n.cell hPV.c0
              have p1 := fun n : Up V1 => n.cell hPV.c1
              have p2 := fun n : Up V1 => n.cell hPV.c2
              have p3 := fun n : Up V1 => n.cell hPV.c3
              have p4 := fun n : Up V1 => n.cell hPV.c4
              simp only at p0 p1 p2 p3 p4
              repeat (refine mix_q rfl ?_; go_big_quiet_step (fail); refine wpQuiet_nil ?_)
              refine mix_n rfl ?_
              clear p0 p1 p2 p3 p4
              go_wp2_with fail
              refine has.mono ?_
              rintro r V2 ⟨ev, rfl, hownE, bV2⟩
              obtain ⟨ae, ce, hee⟩ := own_lenN hownE
              subst hee
              have hBV2 : Below w3.heap.size w3 V2 := hBV.trans (bV2.mono hBV.size)
              have hun := until_any es _ 3300 V2 (EvsAt.of_own hownE) HES.out.2 hln HES.out.1 ((HT1.out.below HB3.out).below hBV2)
              rw [← HU.out] at hun
              unfold figV at hun
              simp only at hun
              clear has hownE
              go_wp2_with fail
              refine ⟨rfl, bV2, ?_⟩
              refine mix_n rfl ?_
              go_wp2_with fail
              refine hun.mono ?_
              rintro r w8 ⟨rfl, bV3⟩
              clear hun
              have hBV3 : Below w3.heap.size w3 w8 := hBV2.trans (bV3.mono hBV2.size)
              go_wp2_with fail
              refine ⟨rfl, bV3, ?_⟩
              repeat (refine mix_q rfl ?_; go_big_quiet_step (fail); refine wpQuiet_nil ?_)
              refine mix_nil ?_
              have HSR8 : Hid (WhAt w8 w1.heap.size w1.heap.size (w1.heap.size + 1) sv cv (.slice aw cs.length cw) b cs cs) := HSR.out.below hBV3
              have HT8 : Hid (LenTab w8) := (HT1.out.below HB3.out).below hBV3
              have HB8 : Hid (Below w1.heap.size w1 w8) := HB3.out.trans (hBV3.mono HB3.out.size)
              clear HSR
              have HSR := HSR8
              clear HSR8
              obtain ⟨W9, hW9⟩ : ∃ W, W = w8.alloc (.cells #[.int .i64 0, .int .i64 0, .int .i64 0, .int .i64 0, .int .i64 0] 38) := ⟨_, rfl⟩
              have hb9 : Below w8.heap.size w8 W9 := by rw [hW9]; exact (Below.refl _ _).alloc (Nat.le_refl _) _
              have HF9 : Hid (FigAt W9 w8.heap.size fig0) := by show FigAt _ _ _; rw [hW9]; exact fig_new w8
              have HW9 : Hid (W9 = _) := hW9
              clear hW9 hPV bV1 bV2 bV3 hBV hBV2 hBV3 HP HB5
              obtain ⟨wo2, rfl⟩ : ∃ X, X = wr := ⟨_, rfl⟩
              go_wp2_with fail
              rw [← HW9.out]
              clear HW9
              go_loopw [13] (fun i wr => ∃ k : Nat, k ≤ cs.length ∧ i = .int .i64 k ∧ Hid (FigAt wr w8.heap.size (sumC fig0 (cs.take k))) ∧ Hid (Below w8.heap.size w8 wr)) (fun i _ => cs.length - (intOf i).toNat)
              case atStart => exact ⟨0, Nat.zero_le _, rfl, HF9, hb9⟩
              case round =>
                obtain ⟨k, hk, rfl, HP, HB9⟩ := hrel
                by_cases hlt : k < cs.length
                · have hkz : (k : Int) < (cs.length : Int) := by omega
                  rcases own_form HSR.out.row with ⟨_, a2, _⟩ | ⟨g, cp, e1, hg1, hg2, _⟩
                  · omega
                  · simp only [Value.slice.injEq] at e1
                    obtain ⟨rfl, _, rfl⟩ := e1
                    obtain ⟨x, hx⟩ : ∃ x, x = cs[k] := ⟨_, rfl⟩
                    have HTK : Hid (sumC fig0 (cs.take (k + 1)) = (sumC fig0 (cs.take k)).plus x.posted) := by
                      show _ = _
                      rw [List.take_succ_eq_append_getElem hlt, sumC_append, hx]
                      rfl
                    have hcm : ∀ (W : World) (_ : Below w8.heap.size w8 W) j, j < 7 → W.cell? ⟨g, k * 7 + j, none⟩ = (clC x)[j]? := fun W hb j hj => by
                      rw [hb.cell (p := ⟨g, k * 7 + j, none⟩) hg2, (own_cell clC_len HSR.out.row k j hlt hj).1, hx]
                    have HSM : Hid (sumC fig0 (cs.take (k + 1)) = untl (srt (asOf b x.turn)) x.month ∧ PastOK b x.turn ∧ 0 ≤ x.turn) := ⟨by rw [hx]; exact HC.out.sum k hlt, by rw [hx]; exact HC.out.past _ (List.getElem_mem hlt), by rw [hx]; exact (HC.out.bd _ (List.getElem_mem hlt)).1⟩
                    obtain ⟨xm, xt, x1, x2, x3, x4, x5⟩ := x
                    simp only at HTK HSM
                    have HC0 : Hid (∀ (W : World) (_ : Below w8.heap.size w8 W), W.cell? ⟨g, k * 7, none⟩ = some (.int .i64 xm)) := fun W hb => hcm W hb 0 (by decide)
                    have HC1 : Hid (∀ (W : World) (_ : Below w8.heap.size w8 W), W.cell? ⟨g, k * 7 + 1, none⟩ = some (.int .i64 xt)) := fun W hb => hcm W hb 1 (by decide)
                    have HC2 : Hid (∀ (W : World) (_ : Below w8.heap.size w8 W), W.cell? ⟨g, k * 7 + 2, none⟩ = some (.int .i64 x1)) := fun W hb => hcm W hb 2 (by decide)
                    have HC3 : Hid (∀ (W : World) (_ : Below w8.heap.size w8 W), W.cell? ⟨g, k * 7 + 3, none⟩ = some (.int .i64 x2)) := fun W hb => hcm W hb 3 (by decide)
                    have HC4 : Hid (∀ (W : World) (_ : Below w8.heap.size w8 W), W.cell? ⟨g, k * 7 + 4, none⟩ = some (.int .i64 x3)) := fun W hb => hcm W hb 4 (by decide)
                    have HC5 : Hid (∀ (W : World) (_ : Below w8.heap.size w8 W), W.cell? ⟨g, k * 7 + 5, none⟩ = some (.int .i64 x4)) := fun W hb => hcm W hb 5 (by decide)
                    have HC6 : Hid (∀ (W : World) (_ : Below w8.heap.size w8 W), W.cell? ⟨g, k * 7 + 6, none⟩ = some (.int .i64 x5)) := fun W hb => hcm W hb 6 (by decide)
                    obtain ⟨P, hP⟩ : ∃ P, P = sumC fig0 (cs.take k) := ⟨_, rfl⟩
                    rw [← hP] at HP HTK
                    clear hcm hx hP
                    obtain ⟨P1, P2, P3, P4, P5⟩ := P
                    have mixed := csP.mixed
                    go_wp2_with fail
                    refine wp_region_turn [(.read, 0), (.pure, 1), (.pure, 2), (.pure, 3), (.pure, 4), (.read, 5), (.make, 6), (.turn, 7)] (by kernel_rfl) (by kernel_rfl) ?_
                    obtain ⟨DS, hDS⟩ : ∃ X, X = wr.drew := ⟨_, rfl⟩
                    rw [← hDS]
                    have hbDS : Below wr.heap.size wr DS := by rw [hDS]; exact below_drew _
                    have hBDS : Below w8.heap.size w8 DS := HB9.out.trans (hbDS.mono HB9.out.size)
                    have hXS := HP.out.below hbDS
                    have hU := up_ne
                    have hA := anyW_ne
                    have p0 := fun n : Up DS => n.cell hXS.c0
                    have p1 := fun n : Up DS => n.cell hXS.c1
                    have p2 := fun n : Up DS => n.cell hXS.c2
                    have p3 := fun n : Up DS => n.cell hXS.c3
                    have p4 := fun n : Up DS => n.cell hXS.c4
                    have p5 := fun n : Up DS => n.cell (HC2.out DS hBDS)
                    have p6 := fun n : Up DS => n.cell (HC3.out DS hBDS)
                    have p7 := fun n : Up DS => n.cell (HC4.out DS hBDS)
                    have p8 := fun n : Up DS => n.cell (HC5.out DS hBDS)
                    have p9 := fun n : Up DS => n.cell (HC6.out DS hBDS)
                    simp only at p0 p1 p2 p3 p4
                    have hpl := plus_any ⟨P1, P2, P3, P4, P5⟩ ⟨x1, x2, x3, x4, x5⟩ DS
                    obtain ⟨S, hS⟩ : ∃ R, R = Fig.plus ⟨P1, P2, P3, P4, P5⟩ ⟨x1, x2, x3, x4, x5⟩ := ⟨_, rfl⟩
                    rw [← hS] at hpl HTK
                    obtain ⟨S1, S2, S3, S4, S5⟩ := S
                    unfold figV at hpl
                    simp only at hpl
                    clear hDS hS
                    repeat (first | refine turn_p rfl ?_ | refine turn_q rfl ?_); go_big_quiet_step (fail); refine wpQuiet_nil ?_
                    refine turn_n rfl ?_
                    clear p0 p1 p2 p3 p4 p5 p6 p7 p8 p9
                    go_wp2_with fail
                    refine hpl.mono ?_
                    rintro r vS ⟨rfl, hbvS⟩
                    clear hpl
                    have hXvS := hXS.below hbvS
                    have d0 := hXvS.c0
                    have d1 := hXvS.c1
                    have d2 := hXvS.c2
                    have d3 := hXvS.c3
                    have d4 := hXvS.c4
                    have e0 := hXvS.z0
                    have e1 := hXvS.z1
                    have e2 := hXvS.z2
                    have e3 := hXvS.z3
                    have e4 := hXvS.z4
                    simp only at d0 d1 d2 d3 d4
                    go_wp2_with fail
                    refine ⟨rfl, hbvS, ?_⟩
                    refine turn_t rfl ?_
                    go_wp2_with fail
                    refine ⟨rfl, ?_⟩
                    refine turn_nil ?_
                    obtain ⟨WS, hWS⟩ : ∃ X, X = set5 vS w8.heap.size ⟨S1, S2, S3, S4, S5⟩ := ⟨_, rfl⟩
                    have hPS : FigAt WS w8.heap.size ⟨S1, S2, S3, S4, S5⟩ := by rw [hWS]; exact hXvS.put _
                    have hBS : Below w8.heap.size w8 WS := by rw [hWS]; exact below_boxW (hBDS.trans (hbvS.mono hBDS.size)) (Nat.le_refl _) _
                    unfold set5 at hWS
                    simp only at hWS
                    rw [← hWS]
                    clear hWS hXS hXvS d0 d1 d2 d3 d4 e0 e1 e2 e3 e4 hbDS hBDS hbvS
                    go_wp2_with fail
                    refine wp_region_mix [(true, 0), (true, 1), (true, 2), (true, 3), (true, 4), (true, 5), (true, 7), (true, 8), (true, 9), (true, 10), (true, 11), (false, 6), (false, 12), (true, 13)] (by kernel_rfl) (by kernel_rfl) ?_
                    obtain ⟨V1, hV1⟩ : ∃ X, X = WS.drew := ⟨_, rfl⟩
                    rw [← hV1]
                    have bV1 : Below WS.heap.size WS V1 := by rw [hV1]; exact below_drew _
                    have hBV : Below w8.heap.size w8 V1 := hBS.trans (bV1.mono hBS.size)
                    have hPV := hPS.below bV1
                    clear hV1
                    have has := as_any ((HSR.out.below hBV).both.bk) (by have := HI.out.full; omega) xt
                    rw [show tOf b xt = xt from if_neg (by have := HSM.out.2.2; omega)] at has
                    obtain ⟨es, hes⟩ : ∃ es, es = srt (asOf b xt) := ⟨_, rfl⟩
                    have HES : Hid (sumC fig0 (cs.take (k + 1)) = untl es xm ∧ (es.map (·.id)).Nodup ∧ (∀ e ∈ es, EvW e) ∧ es.length ≤ 10000) := by rw [hes]; exact ⟨HSM.out.1, HSM.out.2.1⟩
                    rw [← hes] at has
                    clear hes
                    have hU := up_ne
                    have p0 := fun n : Up V1 => n.cell hPV.c0
                    have p1 := fun n : Up V1 => n.cell hPV.c1
                    have p2 := fun n : Up V1 => n.cell hPV.c2
                    have p3 := fun n : Up V1 => n.cell hPV.c3
                    have p4 := fun n : Up V1 => n.cell hPV.c4
                    have p5 := fun n : Up V1 => n.cell (HC0.out V1 hBV)
                    have p6 := fun n : Up V1 => n.cell (HC1.out V1 hBV)
                    simp only at p0 p1 p2 p3 p4
                    repeat (refine mix_q rfl ?_; go_big_quiet_step (fail); refine wpQuiet_nil ?_)
                    refine mix_n rfl ?_
                    clear p0 p1 p2 p3 p4 p5 p6
                    go_wp2_with fail
                    refine has.mono ?_
                    rintro r V2 ⟨ev, rfl, hownE, bV2⟩
                    obtain ⟨ae, ce, hee⟩ := own_lenN hownE
                    subst hee
                    have hBV2 : Below w8.heap.size w8 V2 := hBV.trans (bV2.mono hBV.size)
                    have hun := until_any es _ xm V2 (EvsAt.of_own hownE) HES.out.2.2.1 HES.out.2.2.2 HES.out.2.1 (HT8.out.below hBV2)
                    rw [← HES.out.1, HTK.out] at hun
                    unfold figV at hun
                    simp only at hun
                    clear has hownE
                    go_wp2_with fail
                    refine ⟨rfl, bV2, ?_⟩
                    refine mix_n rfl ?_
                    go_wp2_with fail
                    refine hun.mono ?_
                    rintro r V3 ⟨rfl, bV3⟩
                    clear hun
                    have hBV3 : Below w8.heap.size w8 V3 := hBV2.trans (bV3.mono hBV2.size)
                    have hP3 := (hPV.below bV2).below bV3
                    go_wp2_with fail
                    refine ⟨rfl, bV3, ?_⟩
                    repeat (refine mix_q rfl ?_; go_big_quiet_step (fail); refine wpQuiet_nil ?_)
                    refine mix_nil ?_
                    go_wp2
                    go_roundw
                    case rel => exact ⟨k + 1, by omega, by go_num, (by show FigAt _ _ _; rw [HTK.out]; exact hP3), hBV3⟩
                    case measure => simp [intOf]; omega
                · obtain rfl : k = cs.length := by omega
                  have hfin : Below w0.heap.size w0 wr := HBW.out.trans ((HB8.out.trans (HB9.out.mono HB8.out.size)).mono HBW.out.size)
                  go_wp2
                  go_ret
                  exact ⟨rfl, hfin⟩
end Go.Proofs.YtmldaiofghpfdaaGreatDoor.periodWhole
