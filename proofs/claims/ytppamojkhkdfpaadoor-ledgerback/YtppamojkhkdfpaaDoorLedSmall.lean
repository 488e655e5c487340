/- The walks of tallymankeep.posted, tallymankeep.bounded, slices.Clone at postings, and of what no posting is. -/
import Derived.Test.YtppamojkhkdfpaaDoorLedPrint
import Derived.Test.YtppamojkhkdfpaaDoorAmtFact
namespace Go.Proofs.YtppamojkhkdfpaaDoor
open Go.RowKit
theorem posted_text : printL (postL ⟨500, -70, 0, 0, 0⟩) = [53, 46, 48, 48, 32, 115, 116, 111, 99, 107, 32, 102, 114, 111, 109, 32, 115, 117, 112, 112, 108, 121, 10, 48, 46, 55, 48, 32, 115, 116, 111, 99, 107, 32, 102, 114, 111, 109, 32, 115, 111, 108, 100, 10] := by
  have e : postL ⟨500, -70, 0, 0, 0⟩ = [⟨aStock, aSupply, 500⟩, ⟨aStock, aSold, 70⟩] := by
    simp [postL, fives, post1, wrap64]
  rw [e]
  show pline ⟨aStock, aSupply, 500⟩ ++ (pline ⟨aStock, aSold, 70⟩ ++ []) = _
  unfold pline
  simp only [amt_500, amt_70]
  rfl
structure AccSz : Prop where
  aStock : aStock.size ≤ 1000
  aSupply : aSupply.size ≤ 1000
  aSold : aSold.size ≤ 1000
  aLoss : aLoss.size ≤ 1000
  aGain : aGain.size ≤ 1000
  aLate : aLate.size ≤ 1000
theorem acc_sz : AccSz := ⟨by decide, by decide, by decide, by decide, by decide, by decide⟩
theorem postL_ok (f : Fig) (hf : f.ok) : ∀ p ∈ postL f, I64 p.amt ∧ p.deb.size ≤ 1000 ∧ p.cre.size ≤ 1000 := by
  intro p hp
  unfold postL at hp
  rw [List.mem_flatMap] at hp
  obtain ⟨q, hq, hp⟩ := hp
  have hq2 : I64 q.amt ∧ q.deb.size ≤ 1000 ∧ q.cre.size ≤ 1000 := by
    simp only [fives, List.mem_cons, List.not_mem_nil, or_false] at hq
    rcases hq with rfl | rfl | rfl | rfl | rfl
    · exact ⟨hf.inn, acc_sz.aStock, acc_sz.aSupply⟩
    · exact ⟨hf.out, acc_sz.aSold, acc_sz.aStock⟩
    · exact ⟨hf.loss, acc_sz.aLoss, acc_sz.aStock⟩
    · exact ⟨hf.gain, acc_sz.aStock, acc_sz.aGain⟩
    · exact ⟨hf.late, acc_sz.aLate, acc_sz.aSupply⟩
  unfold post1 at hp
  split at hp
  · simp only [List.mem_singleton] at hp; subst hp; exact hq2
  · split at hp
    · simp only [List.mem_singleton] at hp; subst hp; exact ⟨i64_wrap _, hq2.2.2, hq2.2.1⟩
    · cases hp
set_option maxHeartbeats 2000000 in
theorem posted_any (w : World) : Calls Tryd.prog 10 #[] w fun r w' => r = .returned (.bool true) ∧ Below w.heap.size w w' := by
  have hp := post_any ⟨500, -70, 0, 0, 0⟩ w
  unfold figV at hp
  simp only at hp
  have hok : Fig.ok ⟨500, -70, 0, 0, 0⟩ := by constructor <;> (unfold I64; simp)
  have HO := hidE (postL_ok _ hok)
  have HL := hidE (postL_len ⟨500, -70, 0, 0, 0⟩)
  have HT := hidE posted_text
  obtain ⟨ps, hps⟩ : ∃ ps, ps = postL ⟨500, -70, 0, 0, 0⟩ := ⟨_, rfl⟩
  rw [← hps] at hp HO HL HT
  clear hps
  go_enter Tryd.func10, Tryd.ntmps10
  go_wp2_with fail
  refine hp.mono ?_
  rintro r w1 ⟨v, rfl, hown, hb1⟩
  obtain ⟨ad, n, cp, hv⟩ := own_lenL hown
  subst hv
  have hpr := lprint_any ps _ w1 (PstsAt.of_own hown) (by have := HL.out; omega) HO.out
  rw [HT.out] at hpr
  clear hown hp
  go_wp2_with fail
  refine hpr.mono ?_
  rintro r w2 ⟨rfl, hb2⟩
  have HB : Hid (Below w.heap.size w w2) := hb1.trans (hb2.mono hb1.size)
  clear hpr hb1 hb2
  go_wp2
  go_ret
  exact ⟨rfl, HB.out⟩
/-- Figures that are not above what there may be. -/
def bnd (n : Int) : Prop := -1000000000000 ≤ n ∧ n ≤ 1000000000000
structure Fig.bd (f : Fig) : Prop where
  inn : bnd f.inn
  out : bnd f.out
  loss : bnd f.loss
  gain : bnd f.gain
  late : bnd f.late
theorem Fig.bd.ok {f : Fig} (h : f.bd) : f.ok := by
  obtain ⟨h1, h2, h3, h4, h5⟩ := h
  unfold bnd at h1 h2 h3 h4 h5
  constructor <;> (unfold I64; omega)
noncomputable def bdB (f : Fig) : Bool := @decide f.bd (Classical.propDecidable _)
theorem bdB_yes {f : Fig} (h : f.bd) : bdB f = true := by unfold bdB; simpa using h
theorem bdB_no {f : Fig} (h : ¬ f.bd) : bdB f = false := by unfold bdB; simpa using h
theorem bdB_iff {f : Fig} : bdB f = true ↔ f.bd := by unfold bdB; simp
theorem bd_iff (f : Fig) : f.bd ↔ ∀ n ∈ [f.inn, f.out, f.loss, f.gain, f.late], bnd n := by
  constructor
  · rintro ⟨h1, h2, h3, h4, h5⟩ n hn
    simp only [List.mem_cons, List.not_mem_nil, or_false] at hn
    rcases hn with rfl | rfl | rfl | rfl | rfl <;> assumption
  · intro h
    constructor <;> (apply h; simp)
set_option maxHeartbeats 2000000 in
theorem bounded_any (f : Fig) (w : World) : Calls Tryd.prog 13 #[figV f] w fun r w' => r = .returned (.bool (bdB f)) ∧ Below w.heap.size w w' := by
  have HBI := hidE (bd_iff f)
  obtain ⟨f1, f2, f3, f4, f5⟩ := f
  unfold figV
  simp only at HBI
  obtain ⟨W0, hW0⟩ : ∃ W, W = (w.alloc (.cells #[.int .i64 f1, .int .i64 f2, .int .i64 f3, .int .i64 f4, .int .i64 f5] 40)).alloc (.cells #[.int .i64 f1, .int .i64 f2, .int .i64 f3, .int .i64 f4, .int .i64 f5] 3) := ⟨_, rfl⟩
  obtain ⟨xs, hxs⟩ : ∃ xs, xs = [f1, f2, f3, f4, f5] := ⟨_, rfl⟩
  have h5 : xs.length = 5 := by rw [hxs]; rfl
  have HC : Hid (∀ (k : Nat) (hk : k < xs.length), W0.cell? ⟨w.heap.size + 1, k, none⟩ = some (.int .i64 xs[k])) := fun k hk => by
    subst hxs
    have h5 : k < 5 := hk
    obtain rfl | rfl | rfl | rfl | rfl : k = 0 ∨ k = 1 ∨ k = 2 ∨ k = 3 ∨ k = 4 := by omega
    all_goals (rw [hW0]; simp)
  have HB0 : Hid (Below w.heap.size w W0) := by rw [hW0]; exact ((Below.refl _ _).alloc (Nat.le_refl _) _).alloc (by simp) _
  rw [← hxs] at HBI
  have HW0 := hidE hW0
  clear hW0 hxs
  go_enter Tryd.func13, Tryd.ntmps13
  go_wp2_with fail
  rw [← HW0.out]
  go_loopw [17] (fun i wr => ∃ k : Nat, k ≤ 5 ∧ i = .int .i64 k ∧ Hid (wr = W0) ∧ Hid (∀ j (hj : j < xs.length), j < k → bnd xs[j])) (fun i _ => 5 - (intOf i).toNat)
  case atStart => exact ⟨0, by omega, rfl, hidE rfl, fun j _ h => absurd h (Nat.not_lt_zero _)⟩
  case round =>
    obtain ⟨k, hk, rfl, hwr, HD⟩ := hrel
    have hwr2 : wr = W0 := hwr.out
    clear hwr
    subst hwr2
    by_cases hlt : k < 5
    · have q := HC.out k (by omega)
      obtain ⟨x, hx⟩ : ∃ x, x = xs[k]'(by omega) := ⟨_, rfl⟩
      rw [← hx] at q
      have HX := hidE hx
      clear hx
      by_cases c1 : 1000000000000 < x
      · have HN : Hid (¬ Fig.bd ⟨f1, f2, f3, f4, f5⟩) := fun h => by
          have := (HBI.out.1 h) x (by rw [HX.out]; exact List.getElem_mem _)
          unfold bnd at this; omega
        go_wp2
        go_ret
        exact ⟨by rw [bdB_no HN.out]; rfl, HB0.out⟩
      · by_cases c2 : x < -1000000000000
        · have HN : Hid (¬ Fig.bd ⟨f1, f2, f3, f4, f5⟩) := fun h => by
            have := (HBI.out.1 h) x (by rw [HX.out]; exact List.getElem_mem _)
            unfold bnd at this; omega
          go_wp2
          go_ret
          exact ⟨by rw [bdB_no HN.out]; rfl, HB0.out⟩
        · have HBX : Hid (bnd x) := by show bnd x; unfold bnd; omega
          go_wp2
          go_roundw
          case rel =>
            refine ⟨k + 1, by omega, by go_num, hidE (by first | trivial | rfl), fun j hj hjk => ?_⟩
            by_cases e : j < k
            · exact HD.out j hj e
            · obtain rfl : j = k := by omega
              rw [← HX.out]; exact HBX.out
          case measure => simp [intOf]; omega
    · obtain rfl : k = 5 := by omega
      have HY : Hid (Fig.bd ⟨f1, f2, f3, f4, f5⟩) := HBI.out.2 fun n hn => by
        obtain ⟨j, hj, rfl⟩ := List.getElem_of_mem hn
        exact HD.out j hj (by omega)
      go_wp2
      go_ret
      exact ⟨by rw [bdB_yes HY.out]; rfl, HB0.out⟩
end Go.Proofs.YtppamojkhkdfpaaDoor
