/- The walk of tallymankeep.LedgerStock. -/
import Derived.Test.YtppamojkhkdfpaaGreatDoorBnU
import Derived.Test.YtppamojkhkdfpaaGreatDoorBnV
import Derived.Test.YtppamojkhkdfpaaGreatDoorBnW
import Derived.Test.YtppamojkhkdfpaaGreatDoorBnY
import Derived.Test.YtppamojkhkdfpaaGreatDoorBnZ
import Derived.Test.YtppamojkhkdfpaaGreatDoorKpLook
namespace Go.Proofs.YtppamojkhkdfpaaGreatDoor.ledgerStock
open Go.Proofs.YtppamojkhkdfpaaGreatDoor
open Go.RowKit Go.Maps
set_option maxRecDepth 20000 in
set_option maxHeartbeats 8000000 in
theorem walk (l : List Ac) (ao : Option Addr) (cap : Nat) (zs : List Int) (az : Option Addr) (capz : Nat) (w : World) (h : ActsAt w ao l) (hz : IntsAt w az zs) (hm : l.length ≤ maxLen) (hmz : zs.length ≤ maxLen) (ht : LenTab w) :
    Calls Tryz.prog 5 #[.slice ao l.length cap, .slice az zs.length capz] w fun r w' => r = .returned (.bool true) ∧ Below w.heap.size w w' := by
  have hsm := small_any l ao cap w h hm
  have hsh := posted_any w
  have HT : Hid (LenTab w) := ht
  clear ht
  unfold maxLen at hm hmz
  go_enter Tryz.func5, Tryz.ntmps5
  go_wp2_with fail
  refine hsm.mono ?_
  rintro e w0 ⟨⟨bb, rfl, hbb⟩, rfl⟩
  clear hsm
  cases bb with
  | false =>
    clear hsh
    go_wp2
    go_ret
    exact ⟨rfl, Below.refl _ _⟩
  | true =>
    have h40 : l.length ≤ 40 := hbb rfl
    clear hbb
    by_cases hz40 : 40 < zs.length
    · clear hsh
      go_wp2
      go_ret
      exact ⟨rfl, Below.refl _ _⟩
    · have hz4 : zs.length ≤ 40 := by omega
      go_wp2_with fail
      refine hsh.mono ?_
      rintro e w1 ⟨rfl, hb1⟩
      clear hsh
      have HA : Hid (ActsAt w1 ao l) := h.below hb1 (Nat.le_refl _)
      have HZ : Hid (IntsAt w1 az zs) := hz.below hb1 (Nat.le_refl _)
      have HBW : Hid (Below w0.heap.size w0 w1) := hb1
      have HT1 : Hid (LenTab w1) := HT.out.below hb1
      clear hb1 h hz
      obtain ⟨W2, hW2⟩ : ∃ W, W = (w1.alloc (.cells #[.slice none 0 0, .int .i64 0, .int .i64 0] 27)).alloc (.cells #[.slice none 0 0] 30) := ⟨_, rfl⟩
      have HS0 : Hid (BothAt W2 w1.heap.size w1.heap.size (w1.heap.size + 1) (.slice none 0 0) (.slice none 0 0) bk0 []) := by
        have hp := per_new (w1.alloc (.cells #[.slice none 0 0, .int .i64 0, .int .i64 0] 27)) w1.heap.size (by simp)
        show BothAt _ _ _ _ _ _ _ _
        rw [hW2]
        exact ⟨(book_new w1 w1.heap.size (Nat.le_refl _)).below ((Below.refl _ _).alloc (Nat.le_refl _) _), by simpa using hp, by omega, by simp [Value.ownBlock], by simp [Value.ownBlock], by simp [Value.ownBlock]⟩
      have HB2 : Hid (Below w1.heap.size w1 W2) := by show Below _ _ _; rw [hW2]; exact ((Below.refl _ _).alloc (Nat.le_refl _) _).alloc (by simp) _
      have HW2 : Hid (W2 = _) := hW2
      clear hW2
      go_wp2_with fail
      rw [← HW2.out]
      clear HW2
      obtain ⟨n, hn⟩ : ∃ n, n = max l.length zs.length := ⟨_, rfl⟩
      have hn1 : l.length ≤ n := by omega
      have hn2 : zs.length ≤ n := by omega
      have hn3 : n ≤ 40 := by omega
      have HN0 : Hid (n = max l.length zs.length) := hn
      clear hn hm hmz
      go_loopw [7] (fun i wr => ∃ (k : Nat) (b : Bk) (sv cv : Value) (cs : List Cl), k ≤ n ∧ i = .int .i64 k ∧ Hid (BothAt wr w1.heap.size w1.heap.size (w1.heap.size + 1) sv cv b cs) ∧ Hid (Inv b) ∧ Hid (CInv b cs) ∧ Hid (b.n ≤ k ∧ cs.length ≤ k) ∧ Hid (Below w1.heap.size w1 wr))
        (fun i _ => n - (intOf i).toNat)
      case atStart => exact ⟨0, bk0, _, _, [], Nat.zero_le _, rfl, HS0, inv_zero, cinv_zero _, ⟨Int.le_refl _, Nat.le_refl _⟩, HB2⟩
      case round =>
        obtain ⟨k, b, sv, cv, cs, hk, rfl, HS, HI, HC, HN, HB⟩ := hrel
        by_cases hkn : k < n
        · have hknz : (k : Int) < max (l.length : Int) (zs.length : Int) := by have := HN0.out; omega
          by_cases hkl : k < l.length
          · obtain ⟨ab, off, rfl, hab, hc⟩ := HA.out.2 (by omega)
            have hcw : ∀ j, j < 9 → wr.cell? ⟨ab, off + k * 9 + j, none⟩ = (acC l[k])[j]? := fun j hj => by
              rw [HB.out.cell (p := ⟨ab, off + k * 9 + j, none⟩) hab]; exact hc k hkl j hj
            have hew : EvW l[k].e := HA.out.1 _ (List.getElem_mem hkl)
            obtain ⟨x, hx⟩ : ∃ x, x = l[k] := ⟨_, rfl⟩
            rw [← hx] at hcw hew
            clear hx
            have hbk : BkOk b := HI.out.ok (by have := HN.out.1; omega)
            have hac := act_any HS.out.bk hbk x hew
            have HST : Hid (∀ b', StepA b x b' → Inv b' ∧ CInv b' cs ∧ b'.n = b.n + 1) := fun b' hs => ⟨inv_step HI.out hew (by have := HN.out.1; omega) hs, cinv_act HC.out HI.out hs, step_n hs⟩
            have HSA : Hid (∀ b' c, DoesA b x c b' → (c ≠ 0 ∧ b' = b) ∨ (c = 0 ∧ StepA b x b')) := fun b' c hd => hd
            obtain ⟨what, id, ⟨id0, item, kind, qty, price, ofI, day⟩⟩ := x
            have q0 := hcw 0 (by omega)
            have q1 := hcw 1 (by omega)
            have q2 := hcw 2 (by omega)
            have q3 := hcw 3 (by omega)
            have q4 := hcw 4 (by omega)
            have q5 := hcw 5 (by omega)
            have q6 := hcw 6 (by omega)
            have q7 := hcw 7 (by omega)
            have q8 := hcw 8 (by omega)
            simp only [acC, List.getElem?_cons_zero, List.getElem?_cons_succ, Nat.add_zero] at q0 q1 q2 q3 q4 q5 q6 q7 q8
            unfold acV at hac
            simp only at hac
            have hkz : (k : Int) < (l.length : Int) := by omega
            clear hcw hc hbk
            go_wp2_with fail
            refine hac.mono ?_
            rintro e w2 ⟨c2, b3, sv3, rfl, hd2, H2, T2, F2⟩
            have hd' := HSA.out b3 c2 hd2
            have HS2 : Hid (BothAt w2 w1.heap.size w1.heap.size (w1.heap.size + 1) sv3 cv b3 cs) := HS.out.book H2 T2 F2
            have HB2x : Hid (Below w1.heap.size w1 w2) := T2.below HS.out.bk HB.out HB.out.size
            have HI3 : Hid (Inv b3) := by
              rcases hd' with ⟨_, e⟩ | ⟨_, hs⟩
              · rw [e]; exact HI
              · exact (HST.out b3 hs).1
            have HC2 : Hid (CInv b3 cs) := by
              rcases hd' with ⟨_, e⟩ | ⟨_, hs⟩
              · rw [e]; exact HC
              · exact (HST.out b3 hs).2.1
            have HN2 : Hid (b3.n ≤ ((k + 1 : Nat) : Int)) := by
              have h0 := HN.out.1
              rcases hd' with ⟨_, e⟩ | ⟨_, hs⟩
              · rw [e]; show _ ≤ _; omega
              · have := (HST.out b3 hs).2.2; show _ ≤ _; omega
            clear hac hd2 hd' H2 T2 F2 HST HSA q0 q1 q2 q3 q4 q5 q6 q7 q8 hew hkz
            generalize errV c2 = ev2
            by_cases hkc : k < zs.length
            · obtain ⟨zb, zo, hze, hzb, hzc⟩ := (show IntsAt w1 az zs from HZ.out) (by omega)
              have hzd := hzc k hkc
              obtain ⟨zk, hzk⟩ : ∃ z, z = zs[k] := ⟨_, rfl⟩
              rw [← hzk] at hzd
              have hzw : w2.cell? ⟨zb, zo + k, none⟩ = some (.int .i64 zk) := (HB2x.out.cell (p := ⟨zb, zo + k, none⟩) hzb).trans hzd
              subst hze
              clear hzk hzd hzc
              have hcl := close_any HS2.out.pr HS2.out.bk HI3.out (HT1.out.below HB2x.out) (by have := HN.out.2; omega) zk
              have hkcz : (k : Int) < (zs.length : Int) := by omega
              go_wp2_with fail
              refine hcl.mono ?_
              rintro e w3 ⟨F3, c3, cs3, cv3, rfl, hd3, P3, T3, F3'⟩
              have HS3 : Hid (BothAt w3 w1.heap.size w1.heap.size (w1.heap.size + 1) sv3 cv3 b3 cs3) := HS2.out.closes P3 T3 F3'
              have hci := cinv_close HC2.out HI3.out hd3
              have HC3 : Hid (CInv b3 cs3) := hci.1
              have HN3 : Hid (b3.n ≤ ((k + 1 : Nat) : Int) ∧ cs3.length ≤ k + 1) := ⟨HN2.out, by
                obtain ⟨t, e, ht⟩ := hci.2
                rw [e, List.length_append]; have := HN.out.2; omega⟩
              have HB3 : Hid (Below w1.heap.size w1 w3) := per_below T3 HS2.out.pr HB2x.out HB2x.out.size
              clear hcl hd3 P3 T3 F3' hci hzw
              generalize figV F3 = fv3
              generalize errV c3 = ev3
              go_wp2
              go_roundw
              case rel => exact ⟨k + 1, b3, _, _, cs3, by omega, by go_num, HS3, HI3, HC3, HN3, HB3⟩
              case measure => simp [intOf]; omega
            · have hkcz : ¬ (k : Int) < (zs.length : Int) := by omega
              have HN3 : Hid (b3.n ≤ ((k + 1 : Nat) : Int) ∧ cs.length ≤ k + 1) := ⟨HN2.out, by have := HN.out.2; omega⟩
              go_wp2
              go_roundw
              case rel => exact ⟨k + 1, b3, _, _, cs, by omega, by go_num, HS2, HI3, HC2, HN3, HB2x⟩
              case measure => simp [intOf]; omega
          · have hkz : ¬ (k : Int) < (l.length : Int) := by omega
            obtain ⟨sv3, hsv3⟩ : ∃ v, v = sv := ⟨_, rfl⟩
            obtain ⟨b3, hb3⟩ : ∃ v, v = b := ⟨_, rfl⟩
            have HS2 : Hid (BothAt wr w1.heap.size w1.heap.size (w1.heap.size + 1) sv3 cv b3 cs) := by rw [hsv3, hb3]; exact HS
            have HB2x : Hid (Below w1.heap.size w1 wr) := HB
            have HI3 : Hid (Inv b3) := by rw [hb3]; exact HI
            have HC2 : Hid (CInv b3 cs) := by rw [hb3]; exact HC
            have HN2 : Hid (b3.n ≤ ((k + 1 : Nat) : Int)) := by rw [hb3]; have h0 := HN.out.1; show _ ≤ _; omega
            clear hsv3 hb3
            by_cases hkc : k < zs.length
            · obtain ⟨zb, zo, hze, hzb, hzc⟩ := (show IntsAt w1 az zs from HZ.out) (by omega)
              have hzd := hzc k hkc
              obtain ⟨zk, hzk⟩ : ∃ z, z = zs[k] := ⟨_, rfl⟩
              rw [← hzk] at hzd
              have hzw : wr.cell? ⟨zb, zo + k, none⟩ = some (.int .i64 zk) := (HB2x.out.cell (p := ⟨zb, zo + k, none⟩) hzb).trans hzd
              subst hze
              clear hzk hzd hzc
              have hcl := close_any HS2.out.pr HS2.out.bk HI3.out (HT1.out.below HB2x.out) (by have := HN.out.2; omega) zk
              have hkcz : (k : Int) < (zs.length : Int) := by omega
              go_wp2_with fail
              refine hcl.mono ?_
              rintro e w3 ⟨F3, c3, cs3, cv3, rfl, hd3, P3, T3, F3'⟩
              have HS3 : Hid (BothAt w3 w1.heap.size w1.heap.size (w1.heap.size + 1) sv3 cv3 b3 cs3) := HS2.out.closes P3 T3 F3'
              have hci := cinv_close HC2.out HI3.out hd3
              have HC3 : Hid (CInv b3 cs3) := hci.1
              have HN3 : Hid (b3.n ≤ ((k + 1 : Nat) : Int) ∧ cs3.length ≤ k + 1) := ⟨HN2.out, by
                obtain ⟨t, e, ht⟩ := hci.2
                rw [e, List.length_append]; have := HN.out.2; omega⟩
              have HB3 : Hid (Below w1.heap.size w1 w3) := per_below T3 HS2.out.pr HB2x.out HB2x.out.size
              clear hcl hd3 P3 T3 F3' hci hzw
              generalize figV F3 = fv3
              generalize errV c3 = ev3
              go_wp2
              go_roundw
              case rel => exact ⟨k + 1, b3, _, _, cs3, by omega, by go_num, HS3, HI3, HC3, HN3, HB3⟩
              case measure => simp [intOf]; omega
            · exfalso
              have := HN0.out
              omega
        · obtain rfl : k = n := by omega
          have hknz : ¬ (k : Int) < max (l.length : Int) (zs.length : Int) := by have := HN0.out; omega
          have hcs : cs.length ≤ 40 := by have := HN.out.2; omega
          have hcd := closed_any HS.out.pr (by omega)
          go_wp2_with fail
          refine hcd.mono ?_
          rintro e w3 ⟨nv, rfl, hown3, hb3⟩
          have HS3 : Hid (BothAt w3 w1.heap.size w1.heap.size (w1.heap.size + 1) sv cv b cs) := HS.out.below hb3
          have HB3 : Hid (Below w1.heap.size w1 w3) := HB.out.trans (hb3.mono HB.out.size)
          obtain ⟨an, cn, hnv⟩ := own_lenN hown3
          subst hnv
          obtain ⟨wo, rfl⟩ : ∃ X, X = wr := ⟨_, rfl⟩
          obtain ⟨ko, rfl⟩ : ∃ X, X = k := ⟨_, rfl⟩
          have HO3 := hidE hown3
          clear hcd hown3 hb3 HS HB HN HN0 hknz hkn hk hn1 hn2 hn3 HS0 HB2 HA HZ
          go_wp2_with fail
          go_loopw [8, 10] (fun av i wr => ∃ k : Nat, k ≤ cs.length ∧ i = .int .i64 k ∧ Hid (wr.ownsRow w3.heap.size 75 3 av (postsC (cs.take k)).length ((postsC (cs.take k)).flatMap pstC)) ∧ Hid (Below w3.heap.size w3 wr)) (fun _ i _ => cs.length - (intOf i).toNat)
          case atStart => exact ⟨0, Nat.zero_le _, rfl, World.ownsRow_nil _ _ _ _, Below.refl _ _⟩
          case round =>
            obtain ⟨k, hk, rfl, HP, HB4⟩ := hrel
            by_cases hlt : k < cs.length
            · have hkz : (k : Int) < (cs.length : Int) := by omega
              rcases own_form HO3.out with ⟨_, a2, _⟩ | ⟨g, cp, e1, hg1, hg2, _⟩
              · omega
              · simp only [Value.slice.injEq] at e1
                obtain ⟨rfl, _, rfl⟩ := e1
                obtain ⟨x, hx⟩ : ∃ x, x = cs[k] := ⟨_, rfl⟩
                have HTK : Hid (postsC (cs.take (k + 1)) = postsC (cs.take k) ++ postL x.posted) := by rw [hx]; exact posts_snoc hlt
                have HPL : Hid ((postsC (cs.take k)).length ≤ 300) := by
                  have h1 := posts_len (cs.take k)
                  rw [List.length_take] at h1
                  show _ ≤ _
                  omega
                have hcm : ∀ j, j < 7 → wr.cell? ⟨g, k * 7 + j, none⟩ = (clC x)[j]? := fun j hj => by
                  rw [HB4.out.cell (p := ⟨g, k * 7 + j, none⟩) hg2, (own_cell clC_len HO3.out k j hlt hj).1, hx]
                have p2 := hcm 2 (by decide)
                have p3 := hcm 3 (by decide)
                have p4 := hcm 4 (by decide)
                have p5 := hcm 5 (by decide)
                have p6 := hcm 6 (by decide)
                have hpo := post_any x.posted wr
                have HPN : Hid ((postL x.posted).length ≤ 5) := postL_len _
                generalize postL x.posted = nps at hpo HTK HPN
                obtain ⟨xm, xt, x1, x2, x3, x4, x5⟩ := x
                simp only [clC, figC, List.getElem?_cons_zero, List.getElem?_cons_succ] at p2 p3 p4 p5 p6
                unfold figV at hpo
                simp only at hpo
                obtain ⟨aps, haps⟩ : ∃ a, a = postsC (cs.take k) := ⟨_, rfl⟩
                rw [← haps] at HP HTK HPL
                clear hcm hx haps
                obtain ⟨aa, ca, hav⟩ := own_lenN HP.out
                subst hav
                go_wp2_with fail
                refine hpo.mono ?_
                rintro r w5 ⟨v5, rfl, hown5, hb5⟩
                obtain ⟨a5, c5, hv5⟩ := own_lenN hown5
                subst hv5
                have HP5 : Hid (w5.ownsRow w3.heap.size 75 3 (.slice aa aps.length ca) aps.length (aps.flatMap pstC)) := own_below HP.out hb5 (Nat.le_refl _)
                have HB5 : Hid (Below w3.heap.size w3 w5) := HB4.out.trans (hb5.mono HB4.out.size)
                have HN5 : Hid (PstsAt w5 (.slice a5 nps.length c5) nps) := PstsAt.of_own hown5
                clear hpo hown5 hb5 p2 p3 p4 p5 p6
                go_wp2_with (at_builtin; refine wpList_app_psts rfl _ _ rfl w3.heap.size (.slice aa aps.length ca) aps nps rfl HP5.out (.slice a5 nps.length c5) rfl HN5.out (by have := HPL.out; have := HPN.out; omega) HB5.out.size ?_)
                intro v6 w6 hown6 hgr6
                obtain ⟨a6, c6, hv6⟩ := own_lenN hown6
                subst hv6
                have HB6 : Hid (Below w3.heap.size w3 w6) := HB5.out.grown hgr6 HB5.out.size (fun j hj => (HP5.out.lt j hj).1)
                have HP6 : Hid (w6.ownsRow w3.heap.size 75 3 (.slice a6 (aps.length + nps.length) c6) (postsC (cs.take (k + 1))).length ((postsC (cs.take (k + 1))).flatMap pstC)) := by
                  show World.ownsRow _ _ _ _ _ _ _
                  rw [HTK.out, List.length_append, List.flatMap_append]; exact hown6
                clear hown6 hgr6
                go_wp2
                go_roundw
                case rel => exact ⟨k + 1, by omega, by go_num, HP6, HB6⟩
                case measure => simp [intOf]; omega
            · obtain rfl : k = cs.length := by omega
              rw [List.take_length] at HP
              have hkz : ¬ (cs.length : Int) < (cs.length : Int) := by omega
              have hop := open_any (HS3.out.below HB4.out).pr (HS3.out.below HB4.out).bk HI.out ((HT1.out.below HB3.out).below HB4.out) (by omega)
              obtain ⟨X, hX⟩ : ∃ X, X = unp (untl (srt (asOf b b.n)) 3300) cs := ⟨_, rfl⟩
              have HX := hidE hX
              rw [← hX] at hop
              have hpo := fun W : World => post_any X W
              have HPN : Hid ((postL X).length ≤ 5) := postL_len _
              have HPL : Hid ((postsC cs).length ≤ 300) := by
                have h1 := posts_len cs
                show _ ≤ _
                omega
              obtain ⟨nps, hnps⟩ : ∃ n, n = postL X := ⟨_, rfl⟩
              obtain ⟨aps, haps⟩ : ∃ n, n = postsC cs := ⟨_, rfl⟩
              have HNPS := hidE hnps
              have HAPS := hidE haps
              have HSZ : Hid (∀ p ∈ aps ++ nps, p.deb.size ≤ 1000 ∧ p.cre.size ≤ 1000) := by
                intro p hp
                rcases List.mem_append.1 hp with h | h
                · rw [haps] at h; exact posts_sz cs p h
                · rw [hnps] at h; exact postL_sz X p h
              rw [← hnps] at hpo HPN
              rw [← haps] at HP HPL
              clear hX hnps haps
              obtain ⟨X1, X2, X3, X4, X5⟩ := X
              unfold figV at hop hpo
              simp only at hop hpo
              obtain ⟨aa, ca, hav⟩ := own_lenN HP.out
              subst hav
              go_wp2_with fail
              refine hop.mono ?_
              rintro r w5 ⟨rfl, hb5⟩
              have HP5 : Hid (w5.ownsRow w3.heap.size 75 3 (.slice aa aps.length ca) aps.length (aps.flatMap pstC)) := own_below HP.out hb5 (Nat.le_refl _)
              have HB5 : Hid (Below w3.heap.size w3 w5) := HB4.out.trans (hb5.mono HB4.out.size)
              clear hop hb5 HP
              go_wp2_with fail
              refine (hpo w5).mono ?_
              rintro r w6 ⟨v6, rfl, hown6, hb6⟩
              obtain ⟨a6, c6, hv6⟩ := own_lenN hown6
              subst hv6
              have HP6 : Hid (w6.ownsRow w3.heap.size 75 3 (.slice aa aps.length ca) aps.length (aps.flatMap pstC)) := own_below HP5.out hb6 (Nat.le_refl _)
              have HB6 : Hid (Below w3.heap.size w3 w6) := HB5.out.trans (hb6.mono HB5.out.size)
              have HN6 : Hid (PstsAt w6 (.slice a6 nps.length c6) nps) := PstsAt.of_own hown6
              clear hpo hown6 hb6 HP5 HB5
              go_wp2_with (at_builtin; refine wpList_app_psts rfl _ _ rfl w3.heap.size (.slice aa aps.length ca) aps nps rfl HP6.out (.slice a6 nps.length c6) rfl HN6.out (by have := HPL.out; have := HPN.out; omega) HB6.out.size ?_)
              intro v7 w7 hown7 hgr7
              obtain ⟨a7, c7, hv7⟩ := own_lenN hown7
              subst hv7
              have HB7 : Hid (Below w3.heap.size w3 w7) := HB6.out.grown hgr7 HB6.out.size (fun j hj => (HP6.out.lt j hj).1)
              have hown7' : w7.ownsRow w3.heap.size 75 3 (.slice a7 (aps.length + nps.length) c7) (aps ++ nps).length ((aps ++ nps).flatMap pstC) := by rw [List.length_append, List.flatMap_append]; exact hown7
              have htr := trial_any (aps ++ nps) _ w7 (PstsAt.of_own hown7') (by rw [List.length_append]; have := HPL.out; have := HPN.out; omega) HSZ.out
              clear hgr7 hown7 hown7' HN6 HP6
              go_wp2_with fail
              refine htr.mono ?_
              rintro r w8 ⟨u8, ks, rfl, hks, hown8, hb8⟩
              obtain ⟨a8, c8, hv8⟩ := own_lenN hown8
              subst hv8
              have HB8 : Hid (Below w3.heap.size w3 w8) := HB7.out.trans (hb8.mono HB7.out.size)
              obtain ⟨f, hf⟩ : ∃ f : ByteArray → Int, f = fun x => bal x 0 (aps ++ nps) := ⟨_, rfl⟩
              rw [← hf] at hown8
              have HF : Hid (f aStock = bal aStock 0 (aps ++ nps)) := by rw [hf]; rfl
              have HKS : Hid (aStock ∉ ks → f aStock = 0) := fun hn => by
                rw [hf]
                exact stock_none fun hm => hn ((hks.mem aStock).2 hm)
              have HO8 := hidE hown8
              have hkl : ks.length ≤ maxLen := by
                rcases own_form hown8 with ⟨_, e, _⟩ | ⟨_, _, _, _, _, h1, h2⟩
                · rw [e]; exact Nat.zero_le _
                · omega
              unfold maxLen at hkl
              clear htr hb8 hown8 hks hf
              obtain ⟨wo2, rfl⟩ : ∃ X, X = wr := ⟨_, rfl⟩
              go_wp2_with fail
              go_loopw [11, 13] (fun hv i wr => ∃ (k : Nat) (v : Int), k ≤ ks.length ∧ i = .int .i64 k ∧ hv = .int .i64 v ∧ Hid (v = f aStock ∨ (v = 0 ∧ aStock ∉ ks.take k)) ∧ wr = w8) (fun _ i _ => ks.length - (intOf i).toNat)
              case atStart => exact ⟨0, 0, Nat.zero_le _, rfl, rfl, Or.inr ⟨rfl, by simp⟩, rfl⟩
              case round =>
                obtain ⟨k, v, hk, rfl, rfl, HV, rfl⟩ := hrel
                by_cases hlt : k < ks.length
                · have hkz : (k : Int) < (ks.length : Int) := by omega
                  rcases own_form HO8.out with ⟨_, e2, _⟩ | ⟨g, cp, e1, hg0, hgl, _⟩
                  · rw [e2] at hlt; exact absurd hlt (Nat.not_lt_zero _)
                  · simp only [Value.slice.injEq] at e1
                    obtain ⟨rfl, _, rfl⟩ := e1
                    have q0 := (own_cell (fun _ => rfl : ∀ x, (blcC f x).length = 2) HO8.out k 0 hlt (by omega)).1
                    have q1 := (own_cell (fun _ => rfl : ∀ x, (blcC f x).length = 2) HO8.out k 1 hlt (by omega)).1
                    have HTK : Hid (ks.take (k + 1) = ks.take k ++ [ks[k]]) := List.take_succ_eq_append_getElem hlt
                    obtain ⟨x, hx⟩ : ∃ x, x = ks[k] := ⟨_, rfl⟩
                    rw [← hx] at q0 q1 HTK
                    simp only [blcC, List.getElem?_cons_zero, List.getElem?_cons_succ, Nat.add_zero] at q0 q1
                    clear hx
                    by_cases hxs : x = aStock
                    · have HV2 : Hid (f x = f aStock ∨ (f x = 0 ∧ aStock ∉ ks.take (k + 1))) := Or.inl (by rw [hxs])
                      have hxe : (x.toList == [115, 116, 111, 99, 107]) = true := by
                        rw [show ([115, 116, 111, 99, 107] : List UInt8) = aStock.toList by rw [ByteArray.toList_eq]; rfl, str_eqS]
                        exact decide_eq_true hxs
                      clear hxs
                      obtain ⟨y, hy⟩ : ∃ y, y = f x := ⟨_, rfl⟩
                      rw [← hy] at q1 HV2
                      clear hy
                      go_wp2
                      go_roundw
                      case rel => exact ⟨k + 1, y, by omega, by go_num, rfl, HV2, (by first | trivial | rfl)⟩
                      case measure => simp [intOf]; omega
                    · have HV2 : Hid (v = f aStock ∨ (v = 0 ∧ aStock ∉ ks.take (k + 1))) := by
                        rcases HV.out with h | ⟨h, hn⟩
                        · exact Or.inl h
                        · refine Or.inr ⟨h, ?_⟩
                          rw [HTK.out]
                          simp only [List.mem_append, List.mem_singleton, not_or]
                          exact ⟨hn, fun e => hxs e.symm⟩
                      have hxe : (x.toList == [115, 116, 111, 99, 107]) = false := by
                        rw [show ([115, 116, 111, 99, 107] : List UInt8) = aStock.toList by rw [ByteArray.toList_eq]; rfl, str_eqS]
                        exact decide_eq_false hxs
                      clear hxs
                      generalize f x = y at q1
                      go_wp2
                      go_roundw
                      case rel => exact ⟨k + 1, v, by omega, by go_num, rfl, HV2, (by first | trivial | rfl)⟩
                      case measure => simp [intOf]; omega
                · obtain rfl : k = ks.length := by omega
                  have hkz : ¬ (ks.length : Int) < (ks.length : Int) := by omega
                  have HVV : Hid (v = f aStock) := by
                    rcases HV.out with h | ⟨h, hn⟩
                    · exact h
                    · rw [List.take_length] at hn
                      show _ = _
                      rw [h, HKS.out hn]
                  have has := as_any (((HS3.out.below HB8.out)).bk) (by have := HI.out.full; omega) (-1)
                  rw [show tOf b (-1) = b.n from if_pos (by decide)] at has
                  obtain ⟨hnd, hew, hln⟩ := now_ok HI.out
                  obtain ⟨es, hes⟩ : ∃ es, es = srt (asOf b b.n) := ⟨_, rfl⟩
                  rw [← hes] at has hew hln HX
                  have HEW := hidE hew
                  clear hes hnd hew
                  obtain ⟨W8, hW8⟩ : ∃ x, x = wr := ⟨_, rfl⟩
                  rw [← hW8] at has HB8
                  rw [← hW8]
                  clear hW8 HS3 HO8 HV HKS
                  go_wp2_with fail
                  refine has.mono ?_
                  rintro r w9 ⟨ev, rfl, hown9, hb9⟩
                  obtain ⟨a9, c9, hv9⟩ := own_lenN hown9
                  subst hv9
                  have HB9 : Hid (Below w3.heap.size w3 w9) := HB8.out.trans (hb9.mono HB8.out.size)
                  have hrun := run_any es _ w9 (EvsAt.of_own hown9) HEW.out hln
                  clear has hown9 hb9
                  go_wp2_with fail
                  refine hrun.mono ?_
                  rintro r w10 ⟨rv, rfl, hres, hb10⟩
                  obtain ⟨u, mb, nn, D, V, rfl, hmb, hvb, hRR⟩ := hres
                  obtain ⟨au, cu, huv⟩ := own_lenN hRR.own
                  subst huv
                  obtain ⟨M, hM⟩ : ∃ M, M = goS stk00 (ordd es) := ⟨_, rfl⟩
                  have HM := hidE hM
                  obtain ⟨ls, hls⟩ : ∃ ls, ls = goL stk00 (ordd es) := ⟨_, rfl⟩
                  rw [← hM, ← hls] at hRR
                  have HOK : Hid (∀ x, StkOK (ordd es).length (M x)) := by
                    intro x
                    have h1 := (goS_ok (ordd es) 0 stk00 (fun y => stk0_ok 0) fun e he => ordd_rt es e he).1 x
                    rw [Nat.zero_add, ← hM] at h1
                    exact h1
                  have HOL : Hid ((ordd es).length ≤ 10000) := by
                    have h1 := ordd_len es
                    show _ ≤ _
                    omega
                  rw [← hls]
                  have HRR := hidE hRR
                  have HB10 : Hid (Below w3.heap.size w3 w10) := HB9.out.trans (hb10.mono HB9.out.size)
                  obtain ⟨X, hX⟩ : ∃ x, x = w10.alloc (.cells #[.slice au ls.length cu, .map (some mb)] 106) := ⟨_, rfl⟩
                  have hbX : Below w10.heap.size w10 X := by rw [hX]; exact (Below.refl _ _).alloc (Nat.le_refl _) _
                  have hc0 : X.cell? ⟨w10.heap.size, 0, none⟩ = some (.slice au ls.length cu) := by rw [hX]; simp
                  have hc1 : X.cell? ⟨w10.heap.size, 1, none⟩ = some (.map (some mb)) := by rw [hX]; simp
                  have hxl : w10.heap.size < X.heap.size := by rw [hX]; simp
                  have HRX := hidE (hRR.below hbX)
                  have HBX : Hid (Below w3.heap.size w3 X) := HB10.out.trans (hbX.mono HB10.out.size)
                  have HWX := hidE hX
                  obtain ⟨rb, hrb⟩ : ∃ n, n = w10.heap.size := ⟨_, rfl⟩
                  rw [← hrb] at hc0 hc1 hxl
                  have HRB := hidE hrb
                  clear hrun hb10 hmb hvb hRR hM hls HRR hX hbX hrb
                  go_wp2_with (first
                    | (at_range; rw [← HWX.out]; refine wpList_range_own _ rfl _ 104 rfl 9 180 law_strT Tryz.underlying104 heldE mb nn D rfl HRX.out.map ?_)
                    | go_in)
                  intro wR hrg0 hg0 hsR
                  have HR0 : Hid (wR.ranges Tryz.prog 9 heldE mb X.heap.size nn D (Maps.has D) (Maps.size D)) := hrg0
                  have HBR : Hid (Below X.heap.size X wR) := ⟨hg0.os, hg0.tape, hg0.output, hg0.size, fun j hj => hg0.block j hj (by simp)⟩
                  clear hrg0 hg0 hsR
                  rw [← HRB.out]
                  go_wp2
                  go_loopw [15] (fun wv wr => ∃ (left : Lit → Bool) (cnt : Nat) (S : List ByteArray), wv = .int .i64 (wrap64 (sumB (fun x => sumV (M x).ys) S)) ∧ Hid (Seen D left S) ∧ Hid (wr.ranges Tryz.prog 9 heldE mb X.heap.size nn D left cnt) ∧ Hid (Below X.heap.size X wr)) (fun _ wr => wr.rangeLeft mb X.heap.size)
                  case atStart => exact ⟨_, _, [], by simp [sumB, wrap64], seen_zero D, HR0, HBR⟩
                  case round =>
                    obtain ⟨left, cnt, S, rfl, HSN, HR, HBy⟩ := hrel
                    go_wp2_with (at_next; refine wpList_next_ranges _ rfl _ rfl 9 law_strT heldE Value.string (fun c : Value => c) (fun key kl hkey => by obtain ⟨s, hs⟩ := Maps.keyOf_string_inv Tryz.underlying9 hkey; exact ⟨s, hs⟩) (fun v y _ => ⟨v, rfl⟩) mb X.heap.size nn D left cnt rfl HR.out ?_ ?_)
                    · intro hcz hlz
                      have HEND : Hid (v = wrap64 (sumB (fun x => sumV (M x).ys) S)) := by
                        have hne := HSN.out.end_ HRX.out hlz
                        have h1 := HVV.out
                        rw [HF.out, HAPS.out, HNPS.out, HX.out] at h1
                        rw [HM.out] at hne
                        show _ = _
                        rw [h1, HM.out]
                        exact stock_is es cs S HSN.out.nd hne
                      clear hcz hlz
                      obtain ⟨q, hq⟩ : ∃ q, q = wrap64 (sumB (fun x => sumV (M x).ys) S) := ⟨_, rfl⟩
                      rw [← hq] at HEND
                      rw [← hq]
                      clear hq
                      have HFIN : Hid (Below w0.heap.size w0 wr) := (HBW.out.trans ((HB3.out.trans (HBX.out.mono HB3.out.size)).mono HBW.out.size)).trans (HBy.out.mono (Nat.le_trans HBW.out.size (Nat.le_trans HB3.out.size HBX.out.size)))
                      have hvq : v = q := HEND.out
                      subst hvq
                      go_wp2
                      go_ret
                      exact ⟨rfl, HFIN.out⟩
                    · intro x c kl yd yp w2 cnt2 hkey hlk hcv hat hrg2 hlt2 hgr2 hsz2 hen
                      obtain ⟨rfl, hxs⟩ := key_str_inv hkey
                      have HR2 : Hid (w2.ranges Tryz.prog 9 heldE mb X.heap.size nn D (fun z => left z && !z.sameKey (keyB x)) cnt2) := hrg2
                      have hB2 : Below X.heap.size X w2 := HBy.out.grown hgr2 (by have := HR.out.lt; omega) (fun j hj => by cases hj; omega)
                      have HLV : Hid (wr.rangeLeft mb X.heap.size = cnt) := HR.out.left_eq
                      have HSN2 : Hid (Seen D (fun z => left z && !z.sameKey (keyB x)) (S ++ [x])) := HSN.out.step hlk
                      have f0 := (hB2.cell (p := ⟨rb, 0, none⟩) hxl).trans hc0
                      have f1 := (hB2.cell (p := ⟨rb, 1, none⟩) hxl).trans hc1
                      have hsum := Sum_any (rv := .agg #[.slice au ls.length cu, .map (some mb)]) (W := w2) (M := M) (ls := ls) ⟨_, mb, nn, D, V, rfl, Nat.zero_le _, fun _ _ _ => Nat.zero_le _, (⟨(HRX.out.below hB2).map, HRX.out.no, HRX.out.yes, (HRX.out.below hB2).lay, own_below (HRX.out.below hB2).own (Below.refl _ _) (Nat.zero_le _)⟩ : RunRes 0 w2 mb nn D V M _ ls)⟩ x hxs (HOK.out x) HOL.out
                      have HSS : Hid (wrap64 (sumB (fun x => sumV (M x).ys) (S ++ [x])) = wrap64 (wrap64 (sumB (fun x => sumV (M x).ys) S) + sumV (M x).ys)) := by
                        show _ = _
                        rw [sumB_snoc, wrap_add]
                      obtain ⟨q, hq⟩ : ∃ q, q = wrap64 (sumB (fun x => sumV (M x).ys) S) := ⟨_, rfl⟩
                      rw [← hq] at HSS
                      rw [← hq]
                      have HB2 := hidE hB2
                      clear hrg2 hat hcv hlk hkey hgr2 hB2 hq
                      go_wp2_with fail
                      refine hsum.mono ?_
                      rintro r w5 ⟨rfl, hb5⟩
                      have HR5 : Hid (w5.ranges Tryz.prog 9 heldE mb X.heap.size nn D (fun z => left z && !z.sameKey (keyB x)) cnt2) := ranges_on HR2.out hb5
                      have HB5 : Hid (Below X.heap.size X w5) := HB2.out.trans (hb5.mono HB2.out.size)
                      clear hsum hb5 f0 f1
                      go_wp2
                      go_roundw
                      case rel => exact ⟨_, cnt2, S ++ [x], by rw [HSS.out], HSN2, HR5, HB5⟩
                      case measure =>
                        rw [HLV.out, HR5.out.left_eq]
                        exact hlt2
end Go.Proofs.YtppamojkhkdfpaaGreatDoor.ledgerStock
