/- The walk of tallymankeep.HouseRefuses. -/
import Derived.Test.YtdkhohlhdiekmaaGreatDoorBnLi
namespace Go.Proofs.YtdkhohlhdiekmaaGreatDoor
open Go.RowKit
/-- Two houses to which the same was done. -/
def SameI (w2 : World) (p1 p2 k : Nat) (wr : World) : Prop := ∃ st s1 c1 s2 c2, TwoH wr w2.heap.size p1 p2 s1 c1 s2 c2 st st ∧ HsOk st ∧ st.ls.length ≤ k ∧ Below w2.heap.size w2 wr
theorem do_count (h : Hs) (l : List UInt8) : (doH h l).h.ls.length ≤ h.ls.length + 1 := by
  by_cases hc : (doH h l).c = 0
  · rw [(do_ok hc).1]; simp
  · rw [(do_err hc).1]; omega
theorem two_new (w : World) : SameI w w.heap.size (w.heap.size + 1) 0 ((w.alloc (.cells #[.slice none 0 0, .int .i64 0, .int .i64 0, .slice none 0 0, .string ⟨#[]⟩, .int .i64 0] 31)).alloc (.cells #[.slice none 0 0, .int .i64 0, .int .i64 0, .slice none 0 0, .string ⟨#[]⟩, .int .i64 0] 31)) := by
  have a1 := house_new w w.heap.size (Nat.le_refl _)
  have b1 : Below w.heap.size w (w.alloc (.cells #[.slice none 0 0, .int .i64 0, .int .i64 0, .slice none 0 0, .string ⟨#[]⟩, .int .i64 0] 31)) := (Below.refl _ _).alloc (Nat.le_refl _) _
  have a2 := house_new (w.alloc (.cells #[.slice none 0 0, .int .i64 0, .int .i64 0, .slice none 0 0, .string ⟨#[]⟩, .int .i64 0] 31)) _ (Nat.le_refl _)
  have b2 := (Below.refl _ (w.alloc (.cells #[.slice none 0 0, .int .i64 0, .int .i64 0, .slice none 0 0, .string ⟨#[]⟩, .int .i64 0] 31))).alloc (Nat.le_refl _) (.cells #[.slice none 0 0, .int .i64 0, .int .i64 0, .slice none 0 0, .string ⟨#[]⟩, .int .i64 0] 31)
  have hz : (w.alloc (.cells #[.slice none 0 0, .int .i64 0, .int .i64 0, .slice none 0 0, .string ⟨#[]⟩, .int .i64 0] 31)).heap.size = w.heap.size + 1 := by simp
  have t := TwoH.of_later a1 a2 b2 b1.size
  rw [hz] at t
  exact ⟨hs0, _, _, _, _, t, ok_zero, by simp [hs0], b1.trans (b2.mono b1.size)⟩
set_option maxRecDepth 20000 in
set_option maxHeartbeats 8000000 in
theorem refuses_walk (ao : Option Addr) (cap : Nat) (l : List (List UInt8)) (w : World) (hg : GlobH w) (hev : ∀ t ∈ l, t.length ≤ maxLen) (hat : StrsC w ao l) (hcp : l.length ≤ cap) (hmx : cap ≤ maxLen) :
    Calls Tryz.prog 6 #[.slice ao l.length cap] w fun e w' => e = .returned (.bool true) ∧ Below w.heap.size w w' := by
  have hli := lines_any l ao cap w hat hev (by omega)
  have HC := hidE hat
  have HG := hidE hg
  clear hat hev hg
  go_enter Tryz.func6, Tryz.ntmps6
  go_wp2_with fail
  refine hli.mono ?_
  rintro x w1 ⟨⟨bb, rfl, hbb⟩, hb1⟩
  clear hli
  cases bb with
  | false =>
    clear hbb
    go_wp2
    go_ret
    exact ⟨rfl, hb1⟩
  | true =>
    obtain ⟨h30, h250⟩ := hbb rfl
    have H250 := hidE h250
    have hke := kept_any w1 (HG.out.below hb1)
    clear hbb h250
    go_wp2_with fail
    refine hke.mono ?_
    rintro x w2 ⟨rfl, hb2'⟩
    have hb2 : Below w.heap.size w w2 := hb1.trans (hb2'.mono hb1.size)
    clear hke hb1 hb2'
    have HN := hidE (two_new w2)
    have hG2 := hidE (HG.out.below hb2)
    have hs2 := hb2.size
    obtain ⟨W3, hW3⟩ : ∃ W, W = (w2.alloc (.cells #[.slice none 0 0, .int .i64 0, .int .i64 0, .slice none 0 0, .string ⟨#[]⟩, .int .i64 0] 31)).alloc (.cells #[.slice none 0 0, .int .i64 0, .int .i64 0, .slice none 0 0, .string ⟨#[]⟩, .int .i64 0] 31) := ⟨_, rfl⟩
    rw [← hW3] at HN
    have HW3 : Hid (W3 = _) := hW3
    have HC2 : Hid (StrsC w2 ao l) := HC.out.below hb2
    have HB2 := hidE hb2
    clear hW3 HC HG hb2
    go_wp2_with fail
    rw [← HW3.out]
    obtain ⟨p1, hp1⟩ : ∃ p, p = w2.heap.size := ⟨_, rfl⟩
    obtain ⟨p2, hp2⟩ : ∃ p, p = w2.heap.size + 1 := ⟨_, rfl⟩
    rw [← hp2, ← hp1]
    have HN2 : Hid (SameI w2 p1 p2 0 W3) := by rw [hp1, hp2]; exact HN.out
    clear hp1 hp2 HN HW3
    go_loopw [5] (fun i wr => ∃ k : Nat, k ≤ l.length ∧ i = .int .i64 k ∧ Hid (SameI w2 p1 p2 k wr)) (fun i _ => l.length - (intOf i).toNat)
    case atStart => exact ⟨0, Nat.zero_le _, rfl, HN2⟩
    case round =>
      obtain ⟨k, hk, rfl, HS⟩ := hrel
      obtain ⟨st, s1, c1, s2, c2, hTW, hok, hcnt, hbl⟩ := HS.out
      by_cases hlt : k < l.length
      · obtain ⟨b, o, e1, lt1, c1'⟩ := HC2.out (by omega)
        subst e1
        have HCL : Hid (∀ W, Below w2.heap.size w2 W → W.cell? ⟨b, o + k, none⟩ = some (encS l[k])) := fun W hb => (hb.cell (p := ⟨b, o + k, none⟩) lt1).trans (c1' k hlt)
        have d1 := HCL.out wr hbl
        have ht2 := H250.out _ (List.getElem_mem hlt)
        have hgr : Ground w2.heap.size wr := ⟨w2, hG2.out, Nat.le_refl _, hbl⟩
        have hdo := do_any hTW.a1 hok (by omega) hgr l[k] (by omega)
        obtain ⟨t, ht⟩ : ∃ t, t = l[k] := ⟨_, rfl⟩
        rw [← ht] at d1 hdo ht2 HCL
        unfold encS at d1 HCL
        have HTW := hidE hTW
        have HOK := hidE hok
        have HBL := hidE hbl
        have hcn := do_count st t
        have HK2 : Hid (HsOk (doH st t).h) := do_keeps t hok (by omega)
        clear c1' ht HS hTW hok hbl hgr
        go_wp2_with fail
        refine hdo.mono ?_
        rintro x w4 ⟨sv', cv', rfl, hA4, hT4⟩
        have hB4 : Below w2.heap.size w2 w4 := hT4.below HTW.out.a1 HBL.out HBL.out.size
        have hT4' := HTW.out.first hA4 hT4
        clear hdo hA4 hT4 HBL d1
        by_cases hc : (doH st t).c = 0
        · have hgr : Ground w2.heap.size w4 := ⟨w2, hG2.out, Nat.le_refl _, hB4⟩
          have hdo := do_any hT4'.a2 HOK.out (by omega) hgr t (by omega)
          have d1 := HCL.out w4 hB4
          have HK3 : Hid (∀ w', ∀ s2' c2', HsAt w' w2.heap.size p2 s2' c2' (doH st t).h → HTurn w4 w' p2 s2 c2 s2' c2' → SameI w2 p1 p2 (k + 1) w') := fun w' s2' c2' a' u' =>
            ⟨_, _, _, _, _, hT4'.second a' u', HK2.out, by omega, u'.below hT4'.a2 hB4 hB4.size⟩
          rw [hc, show errV 0 = Value.nilIface from rfl]
          clear hc hgr hT4' hB4
          go_wp2_with fail
          refine hdo.mono ?_
          rintro x w5 ⟨s2', c2', rfl, hA5, hT5⟩
          have HS5 : Hid (SameI w2 p1 p2 (k + 1) w5) := HK3.out w5 s2' c2' hA5 hT5
          clear hdo hA5 hT5 HK3 d1
          go_wp2
          go_roundw
          case rel => exact ⟨k + 1, by omega, by go_num, HS5⟩
          case measure => simp [intOf]; omega
        · rw [(do_err hc).1] at hT4'
          have hal := alike_any hT4'.a1 hT4'.a2 HOK.out (by omega) (hG2.out.below hB4).ev.len
          rw [errV_ne hc]
          have HS5 : Hid (∀ w', Below w4.heap.size w4 w' → SameI w2 p1 p2 (k + 1) w') := fun w' hb => ⟨st, _, _, _, _, hT4'.below hb, HOK.out, by omega, hB4.trans (hb.mono hB4.size)⟩
          clear hc hT4' hB4
          go_wp2_with fail
          refine hal.mono ?_
          rintro x w5 ⟨rfl, hb5⟩
          have HS6 := hidE (HS5.out w5 hb5)
          clear hal hb5 HS5
          go_wp2
          go_roundw
          case rel => exact ⟨k + 1, by omega, by go_num, HS6⟩
          case measure => simp [intOf]; omega
      · have hal := alike_any hTW.a1 hTW.a2 hok (by omega) (hG2.out.below hbl).ev.len
        have HBL := hidE hbl
        clear HS hTW hok hbl
        go_wp2_with fail
        refine hal.mono ?_
        rintro x w5 ⟨rfl, hb5⟩
        have HFB : Hid (Below w.heap.size w w5) := HB2.out.trans ((HBL.out.trans (hb5.mono HBL.out.size)).mono HB2.out.size)
        clear hal hb5
        go_wp2
        go_ret
        exact ⟨rfl, HFB.out⟩
end Go.Proofs.YtdkhohlhdiekmaaGreatDoor
