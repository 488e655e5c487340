/- The walk of tallymankeep.HouseRestores. -/
import Derived.Test.YtdkhohlhdiekmaaGreatDoorHsRefW
import Derived.Test.YtdkhohlhdiekmaaGreatDoorBnTe
namespace Go.Proofs.YtdkhohlhdiekmaaGreatDoor
open Go.RowKit
/-- A house to which lines were done. -/
def OneI (w2 : World) (p k : Nat) (wr : World) : Prop := ∃ st s c, HsAt wr w2.heap.size p s c st ∧ HsOk st ∧ Made st ∧ st.ls.length ≤ k ∧ Below w2.heap.size w2 wr
theorem one_new (w : World) : OneI w w.heap.size 0 (w.alloc (.cells #[.slice none 0 0, .int .i64 0, .int .i64 0, .slice none 0 0, .string ⟨#[]⟩, .int .i64 0] 31)) :=
  ⟨hs0, _, _, house_new w _ (Nat.le_refl _), ok_zero, made_zero, by simp [hs0], (Below.refl _ _).alloc (Nat.le_refl _) _⟩
/-- api.Tell of an error. -/
theorem tell_any (c : Int) (w : World) (hg : ErrType w) : Calls Tryz.prog 20 #[errV c] w fun e w' => e = .returned (.int .i64 c) ∧ Below w.heap.size w w' := by
  by_cases hc : c = 0
  · subst hc
    rw [show errV 0 = Value.nilIface from rfl]
    exact (tell_nil w).mono fun e w' ⟨he, hw⟩ => ⟨he, by rw [hw]; exact Below.refl _ _⟩
  · rw [errV_ne hc]
    exact tell_errno c w hg
set_option maxRecDepth 20000 in
set_option maxHeartbeats 8000000 in
theorem restores_walk (ao : Option Addr) (cap : Nat) (l : List (List UInt8)) (bo : Option Addr) (cbp : Nat) (m : List (List UInt8)) (w : World) (hg : ErrType w ∧ GlobH w) (hev : ∀ t ∈ l, t.length ≤ maxLen) (hat : StrsC w ao l) (hcp : l.length ≤ cap) (hmx : cap ≤ maxLen)
    (hev2 : ∀ t ∈ m, t.length ≤ maxLen) (hat2 : StrsC w bo m) (hcp2 : m.length ≤ cbp) (hmx2 : cbp ≤ maxLen) :
    Calls Tryz.prog 4 #[.slice ao l.length cap, .slice bo m.length cbp] w fun e w' => e = .returned (.bool true) ∧ Below w.heap.size w w' := by
  have hli := lines_any l ao cap w hat hev (by omega)
  have HLM := fun (W : World) (hb : Below w.heap.size w W) => hidE (lines_any m bo cbp W (hat2.below hb) hev2 (by omega))
  have HC := hidE hat
  have HD := hidE hat2
  have HG := hidE hg
  clear hat hev hg hat2 hev2
  go_enter Tryz.func4, Tryz.ntmps4
  go_wp2_with fail
  refine hli.mono ?_
  rintro x w1 ⟨⟨bb, rfl, hbb⟩, hb1⟩
  have hlm := (HLM w1 hb1).out
  clear hli HLM
  cases bb with
  | false =>
    clear hbb hlm
    go_wp2
    go_ret
    exact ⟨rfl, hb1⟩
  | true =>
  obtain ⟨h30, h250⟩ := hbb rfl
  have H250 := hidE h250
  clear hbb h250
  go_wp2_with fail
  refine hlm.mono ?_
  rintro x w1' ⟨⟨bb, rfl, hbb⟩, hb1'⟩
  have hbx : Below w.heap.size w w1' := hb1.trans (hb1'.mono hb1.size)
  clear hlm hb1 hb1'
  cases bb with
  | false =>
    clear hbb
    go_wp2
    go_ret
    exact ⟨rfl, hbx⟩
  | true =>
  obtain ⟨m30, m250⟩ := hbb rfl
  have M250 := hidE m250
  have hke := kept_any w1' (HG.out.2.below hbx)
  clear hbb m250
  go_wp2_with fail
  refine hke.mono ?_
  rintro x w2 ⟨rfl, hb2'⟩
  have hb2 : Below w.heap.size w w2 := hbx.trans (hb2'.mono hbx.size)
  clear hke hbx hb2'
  have HN := hidE (one_new w2)
  have hG2 := hidE (HG.out.2.below hb2)
  have hE2 := hidE (HG.out.1.below hb2)
  have hs2 := hb2.size
  obtain ⟨W3, hW3⟩ : ∃ W, W = w2.alloc (.cells #[.slice none 0 0, .int .i64 0, .int .i64 0, .slice none 0 0, .string ⟨#[]⟩, .int .i64 0] 31) := ⟨_, rfl⟩
  rw [← hW3] at HN
  have HW3 : Hid (W3 = _) := hW3
  have HC2 : Hid (StrsC w2 ao l) := HC.out.below hb2
  have HD2 : Hid (StrsC w2 bo m) := HD.out.below hb2
  have HB2 := hidE hb2
  clear hW3 HC HD HG hb2
  go_wp2_with fail
  rw [← HW3.out]
  obtain ⟨p1, hp1⟩ : ∃ p, p = w2.heap.size := ⟨_, rfl⟩
  rw [← hp1]
  have HN2 : Hid (OneI w2 p1 0 W3) := by rw [hp1]; exact HN.out
  clear hp1 HN HW3
  go_loopw [6] (fun i wr => ∃ k : Nat, k ≤ l.length ∧ i = .int .i64 k ∧ Hid (OneI w2 p1 k wr)) (fun i _ => l.length - (intOf i).toNat)
  case atStart => exact ⟨0, Nat.zero_le _, rfl, HN2⟩
  case round =>
    obtain ⟨k, hk, rfl, HS⟩ := hrel
    obtain ⟨st, s1, c1, hA1, hok, hma, hcnt, hbl⟩ := HS.out
    by_cases hlt : k < l.length
    · obtain ⟨b, o, e1, lt1, c1'⟩ := HC2.out (by omega)
      subst e1
      have d1 : wr.cell? ⟨b, o + k, none⟩ = some (encS l[k]) := (hbl.cell (p := ⟨b, o + k, none⟩) lt1).trans (c1' k hlt)
      have ht2 := H250.out _ (List.getElem_mem hlt)
      have hgr : Ground w2.heap.size wr := ⟨w2, hG2.out, Nat.le_refl _, hbl⟩
      have hdo := do_any hA1 hok (by omega) hgr l[k] (by omega)
      obtain ⟨t, ht⟩ : ∃ t, t = l[k] := ⟨_, rfl⟩
      rw [← ht] at d1 hdo ht2
      unfold encS at d1
      have hcn := do_count st t
      have HK3 : Hid (∀ w' s' c', HsAt w' w2.heap.size p1 s' c' (doH st t).h → HTurn wr w' p1 s1 c1 s' c' → OneI w2 p1 (k + 1) w') := fun w' s' c' a' u' =>
        ⟨_, _, _, a', do_keeps t hok (by omega), hma.step t, by omega, u'.below hA1 hbl hbl.size⟩
      clear c1' ht HS hok hbl hgr hma hA1
      go_wp2_with fail
      refine hdo.mono ?_
      rintro x w4 ⟨sv', cv', rfl, hA4, hT4⟩
      have HS5 := hidE (HK3.out w4 sv' cv' hA4 hT4)
      clear hdo hA4 hT4 d1 HK3
      go_wp2
      go_roundw
      case rel => exact ⟨k + 1, by omega, by go_num, HS5⟩
      case measure => simp [intOf]; omega
    · have hj := journal_any hA1
      have hrd : Rd 0 (framesL 0 st.ls) st.ls := read_frames st.ls 0 (by omega) hok.ls
      have hsz : (ba (framesL 0 st.ls)).size ≤ 100000 := by
        rw [ba_size, frames_len]
        have := frames_bdH st.ls hok.ls
        omega
      have hre := restore_any (ba (framesL 0 st.ls)) st.ls wr (hG2.out.below hbl) hsz (by rw [ba_data]; exact hrd)
      have HA1 := hidE hA1
      have HOK := hidE hok
      have HMA := hidE hma
      have HBL := hidE hbl
      clear hrd hsz HS hA1 hok hma hbl
      go_wp2_with fail
      refine hj.mono ?_
      rintro x w3 ⟨rfl, hw3⟩
      subst w3
      clear hj
      go_wp2_with fail
      refine hre.mono ?_
      rintro x w4 ⟨⟨_, p2, s2, c2, rfl, hA4⟩ | ⟨hng, _⟩, hb4⟩
      rotate_left
      · exact absurd HMA.out.good hng
      rw [← HMA.out.run] at hA4
      have hTW : TwoH w4 w2.heap.size p1 p2 s1 c1 s2 c2 st st := TwoH.of_later HA1.out hA4 hb4 HBL.out.size
      have hB4 : Below w2.heap.size w2 w4 := HBL.out.trans (hb4.mono HBL.out.size)
      have hal := alike_any hTW.a2 hTW.a1 HOK.out (by omega) (hG2.out.below hB4).ev.len
      have HS4 : Hid (∀ w', Below w4.heap.size w4 w' → SameI w2 p1 p2 (l.length + 0) w') := fun w' hb => ⟨st, _, _, _, _, hTW.below hb, HOK.out, by omega, hB4.trans (hb.mono hB4.size)⟩
      have hnn : decide ((l.length : Int) < (st.ls.length : Int)) = false := decide_eq_false (by omega)
      have hnn2 : decide (l.length < st.ls.length) = false := decide_eq_false (by omega)
      clear hre hA4 hTW hB4 hb4
      go_wp2_with fail
      refine hal.mono ?_
      rintro x w5 ⟨rfl, hb5⟩
      have HS5 := hidE (HS4.out w5 hb5)
      clear hal hb5 HS4 HA1 HOK HMA HBL hnn hnn2
      go_wp2_with fail
      obtain ⟨wo, hwo⟩ : ∃ X, X = wr := ⟨_, rfl⟩
      clear hwo
      go_loopw [10] (fun i wr => ∃ j : Nat, j ≤ m.length ∧ i = .int .i64 j ∧ Hid (SameI w2 p1 p2 (l.length + j) wr)) (fun i _ => m.length - (intOf i).toNat)
      case atStart => exact ⟨0, Nat.zero_le _, rfl, HS5⟩
      case round =>
        obtain ⟨j, hj, rfl, HS⟩ := hrel
        obtain ⟨su, r1, q1, r2, q2, hTW, hok, hcn0, hbl⟩ := HS.out
        by_cases hjl : j < m.length
        · obtain ⟨b, o, e1, lt1, c1'⟩ := HD2.out (by omega)
          subst e1
          have HCL : Hid (∀ W, Below w2.heap.size w2 W → W.cell? ⟨b, o + j, none⟩ = some (encS m[j])) := fun W hb => (hb.cell (p := ⟨b, o + j, none⟩) lt1).trans (c1' j hjl)
          have d1 := HCL.out wr hbl
          have ht2 := M250.out _ (List.getElem_mem hjl)
          have hgr : Ground w2.heap.size wr := ⟨w2, hG2.out, Nat.le_refl _, hbl⟩
          have hdo := do_any hTW.a1 hok (by omega) hgr m[j] (by omega)
          obtain ⟨t, ht⟩ : ∃ t, t = m[j] := ⟨_, rfl⟩
          rw [← ht] at d1 hdo ht2 HCL
          unfold encS at d1 HCL
          have HTW := hidE hTW
          have HOK := hidE hok
          have HBL := hidE hbl
          have hcn := do_count su t
          have HK2 : Hid (HsOk (doH su t).h) := do_keeps t hok (by omega)
          clear c1' ht HS hTW hok hbl hgr
          go_wp2_with fail
          refine hdo.mono ?_
          rintro x w6 ⟨sv', cv', rfl, hA6, hT6⟩
          have hB6 : Below w2.heap.size w2 w6 := hT6.below HTW.out.a1 HBL.out HBL.out.size
          have hT6' := HTW.out.first hA6 hT6
          have hdo2 := do_any hT6'.a2 HOK.out (by omega) ⟨w2, hG2.out, Nat.le_refl _, hB6⟩ t (by omega)
          have d2 := HCL.out w6 hB6
          have HK3 : Hid (∀ w' s2' c2', HsAt w' w2.heap.size p2 s2' c2' (doH su t).h → HTurn w6 w' p2 r2 q2 s2' c2' → SameI w2 p1 p2 (l.length + (j + 1)) w' ∧ Below w2.heap.size w2 w') := fun w' s2' c2' a' u' =>
            ⟨⟨_, _, _, _, _, hT6'.second a' u', HK2.out, by omega, u'.below hT6'.a2 hB6 hB6.size⟩, u'.below hT6'.a2 hB6 hB6.size⟩
          clear hdo hA6 hT6 HBL d1 hT6' hB6 HTW HOK HK2 HCL
          go_wp2_with fail
          refine hdo2.mono ?_
          rintro x w7 ⟨s2', c2', rfl, hA7, hT7⟩
          obtain ⟨hS7, hB7⟩ := HK3.out w7 s2' c2' hA7 hT7
          have HS7 := hidE hS7
          have HB7 := hidE hB7
          clear hdo2 hA7 hT7 hS7 hB7 HK3 d2
          generalize (doH su t).c = cc at *
          generalize ba (doH su t).told = tt at *
          go_wp2_with fail
          refine (tell_any cc w7 (hE2.out.below HB7.out)).mono ?_
          rintro x w8 ⟨rfl, hb8⟩
          have HB8 : Hid (Below w2.heap.size w2 w8) := HB7.out.trans (hb8.mono HB7.out.size)
          go_wp2_with fail
          refine (tell_any cc w8 (hE2.out.below HB8.out)).mono ?_
          rintro x w9 ⟨rfl, hb9⟩
          have HS9 : Hid (SameI w2 p1 p2 (l.length + (j + 1)) w9) := by
            obtain ⟨sz, a1, a2, a3, a4, t1, t2, t3, t4⟩ := HS7.out
            have hb := hb8.trans (hb9.mono hb8.size)
            exact ⟨sz, a1, a2, a3, a4, t1.below hb, t2, t3, t4.trans (hb.mono t4.size)⟩
          clear hb8 hb9 HB8 HS7 HB7
          go_wp2
          go_roundw
          case rel => exact ⟨j + 1, by omega, by go_num, HS9⟩
          case measure => simp [intOf]; omega
        · have hal := alike_any hTW.a2 hTW.a1 hok (by omega) (hG2.out.below hbl).ev.len
          have HBL := hidE hbl
          clear HS hTW hok hbl
          go_wp2_with fail
          refine hal.mono ?_
          rintro x w8 ⟨rfl, hb8⟩
          have HFB : Hid (Below w.heap.size w w8) := HB2.out.trans ((HBL.out.trans (hb8.mono HBL.out.size)).mono HB2.out.size)
          clear hal hb8
          go_wp2
          go_ret
          exact ⟨rfl, HFB.out⟩
end Go.Proofs.YtdkhohlhdiekmaaGreatDoor
