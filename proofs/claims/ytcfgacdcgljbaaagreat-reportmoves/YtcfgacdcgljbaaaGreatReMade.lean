/- The walk of tallymankeep.made. -/
import Derived.Test.YtcfgacdcgljbaaaGreatBnR
import Derived.Test.YtcfgacdcgljbaaaGreatBnQ
namespace Go.Proofs.YtcfgacdcgljbaaaGreat
open Go.RowKit
set_option maxRecDepth 20000 in
set_option maxHeartbeats 4000000 in
theorem made_any (l : List Ac) (ao : Option Addr) (cap : Nat) (w : World) (h : ActsAt w ao l) (h40 : l.length ≤ 40) :
    Calls Tryz.prog 6 #[.slice ao l.length cap] w fun r w' => ∃ (b : Bk) (sv : Value), r = .returned (.pointer (some ⟨w.heap.size, 0, none⟩)) ∧ BookAt w' w.heap.size w.heap.size sv b ∧ Inv b ∧ Own b ∧ b.n ≤ 40 ∧ Below w.heap.size w w' := by
  have HA := hidE h
  have HT0 : Hid (BookAt (w.alloc (.cells #[.slice none 0 0, .int .i64 0, .int .i64 0] 51)) w.heap.size w.heap.size (.slice none 0 0) bk0) := book_new w w.heap.size (Nat.le_refl _)
  clear h
  go_enter Tryz.func6, Tryz.ntmps6
  go_wp2
  go_loopw [4] (fun i wr => ∃ (k : Nat) (b : Bk) (sv : Value), k ≤ l.length ∧ i = .int .i64 k ∧ Hid (BookAt wr w.heap.size w.heap.size sv b) ∧ Hid (Inv b) ∧ Hid (Own b) ∧ Hid (b.n ≤ k) ∧ Hid (Below w.heap.size w wr)) (fun i _ => l.length - (intOf i).toNat)
  case atStart => exact ⟨0, bk0, .slice none 0 0, Nat.zero_le _, rfl, HT0, inv_zero, own_zero, Int.le_refl _, (Below.refl _ _).alloc (Nat.le_refl _) _⟩
  case round =>
    obtain ⟨k, b, sv, hk, rfl, HT, HI, HOW, HN, HB⟩ := hrel
    by_cases hlt : k < l.length
    · obtain ⟨ab, off, rfl, hab, hc⟩ := HA.out.2 (by omega)
      have hcw : ∀ j, j < 9 → wr.cell? ⟨ab, off + k * 9 + j, none⟩ = (acC l[k])[j]? := fun j hj => by
        rw [HB.out.cell (p := ⟨ab, off + k * 9 + j, none⟩) hab]; exact hc k hlt j hj
      have hew : EvW l[k].e := HA.out.1 _ (List.getElem_mem hlt)
      obtain ⟨x, hx⟩ : ∃ x, x = l[k] := ⟨_, rfl⟩
      rw [← hx] at hcw hew
      clear hx
      have hbk : BkOk b := HI.out.ok (by have := HN.out; omega)
      have hac := act_any HT.out hbk x hew
      have HS : Hid (∀ b', StepA b x b' → Inv b' ∧ Own b' ∧ b'.n = b.n + 1) := fun b' hs => ⟨inv_step HI.out hew (by have := HN.out; omega) hs, own_step HI.out (inv_step HI.out hew (by have := HN.out; omega) hs) HOW.out hs, step_n hs⟩
      have HSA : Hid (∀ b' c, DoesA b x c b' → (c ≠ 0 ∧ b' = b) ∨ (c = 0 ∧ StepA b x b')) := fun b' c hd => hd
      obtain ⟨what, id, ⟨id0, item, kind, qty, price, ofI, day⟩⟩ := x
      have q0 := hcw 0 (by omega)
      have q1 := hcw 1 (by omega)
      have q2 := hcw 2 (by omega)
      have q3 := hcw 3 (by omega)
      have q4 := hcw 4 (by omega)
      have q5 := hcw 5 (by omega)
      have q6 := hcw 6 (by omega)
      have q7 := hcw 7 (by omega)
      have q8 := hcw 8 (by omega)
      simp only [acC, List.getElem?_cons_zero, List.getElem?_cons_succ, Nat.add_zero] at q0 q1 q2 q3 q4 q5 q6 q7 q8
      unfold acV at hac
      simp only at hac
      clear hcw hc hbk
      have hkz : (k : Int) < (l.length : Int) := by omega
      go_wp2_with fail
      refine hac.mono ?_
      rintro e w2 ⟨c, b2, sv2, rfl, hd, H2, T2, F2⟩
      have hd' := HSA.out b2 c hd
      have HB2 : Hid (Below w.heap.size w w2) := T2.below HT.out HB.out HB.out.size
      have HT2 := hidE H2
      have HI3 : Hid (Inv b2) := by
        rcases hd' with ⟨_, hbb⟩ | ⟨_, hst⟩
        · rw [hbb]; exact HI
        · exact (HS.out b2 hst).1
      have HO3 : Hid (Own b2) := by
        rcases hd' with ⟨_, hbb⟩ | ⟨_, hst⟩
        · rw [hbb]; exact HOW
        · exact (HS.out b2 hst).2.1
      have HN3 : Hid (b2.n ≤ ((k + 1 : Nat) : Int)) := by
        have hn := HN.out
        show _ ≤ _
        rcases hd' with ⟨_, hbb⟩ | ⟨_, hst⟩
        · rw [hbb]; omega
        · have := (HS.out b2 hst).2.2; omega
      clear hac hd hd' HSA q0 q1 q2 q3 q4 q5 q6 q7 q8 hew hkz T2 F2 H2 HS
      generalize errV c = ev
      go_wp2
      go_roundw
      case rel => exact ⟨k + 1, b2, sv2, by omega, by go_num, HT2, HI3, HO3, HN3, HB2⟩
      case measure => simp [intOf]; omega
    · have hkk : k = l.length := by omega
      go_wp2
      go_ret
      exact ⟨b, sv, rfl, HT.out, HI.out, HOW.out, by have := HN.out; omega, HB.out⟩
end Go.Proofs.YtcfgacdcgljbaaaGreat
