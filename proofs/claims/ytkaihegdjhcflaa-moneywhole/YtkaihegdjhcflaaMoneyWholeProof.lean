/- PROVED HERE: for every number and every slice of numbers tallymankeep.MoneyWhole returns true, and leaves its arguments as they were (Rows.MoneyWholeSaid). No condition. -/
import Derived.Test.YtkaihegdjhcflaaMoneyCounted
import Derived.Test.YtkaihegdjhcflaaSpreadMath
import Derived.ShutString
import Derived.ChangeOld
import Derived.Below
namespace Go.Proofs.Ytkaihegdjhcflaa.moneyWhole
open Go.ChangeShapes Go.WideShapes Go.ChangeAt Go.RowKit
set_option linter.unusedVariables false
theorem own : ownKnob Try.prog.godebug = none := by kernel_rfl
theorem laidOut : laidOutB Try.prog = true := by kernel_rfl
/-- A slice of integers that came in: nil, or a row of 'cap' cells. -/
def IsRow (k : IntKind) (w : World) (a : Option Addr) (len cap : Nat) (zs : List Int) : Prop :=
  (a = none ∧ len = 0 ∧ cap = 0 ∧ zs = []) ∨
  ∃ x, a = some x ∧ len ≤ cap ∧ cap ≤ maxLen ∧ zs.length = cap ∧ (∀ i, i < zs.length → w.cell? (x.add i) = some (.int k (zs.getD i 0))) ∧ ∀ n ∈ zs, (Lit.int k n).wf = true
theorem IsRow.row {w : World} {a : Option Addr} {len cap : Nat} {zs : List Int} (h : IsRow .i64 w a len cap zs) : len ≤ maxLen ∧ ∃ ys, ys.length = len ∧ Row w a ys := by
  rcases h with ⟨rfl, rfl, rfl, rfl⟩ | ⟨x, rfl, hl, hm, hz, hcell, _⟩
  · exact ⟨by unfold maxLen; omega, [], rfl, .inl rfl⟩
  · refine ⟨by omega, zs.take len, by rw [List.length_take]; omega, ?_⟩
    by_cases h0 : len = 0
    · subst h0; exact .inl (by simp)
    · obtain ⟨b, off, spot⟩ := x
      have hc := hcell 0 (by omega)
      have hspot : spot = none := by simpa [Addr.add] using World.cell?_spot hc
      subst hspot
      refine .inr ⟨b, off, rfl, fun i hi => ?_⟩
      rw [List.length_take] at hi
      have := hcell i (by omega)
      have hplain : (⟨b, off, none⟩ : Addr).add i = ⟨b, off + i, none⟩ := by unfold Addr.add; split <;> simp_all
      rw [hplain] at this
      rw [this]
      simp [List.getD, show i < len by omega]
set_option maxHeartbeats 4000000 in
set_option maxRecDepth 20000 in
theorem walk (a0 : Int) (a1 : Option Addr) (len1 cap1 : Nat) (z1 : List Int) (w : World) (w0 : (Lit.int .i64 a0).wf = true) (w1 : IsRow .i64 w a1 len1 cap1 z1) :
    Calls Try.prog 3 #[.int .i64 a0, .slice a1 len1 cap1] w fun e w' => e = .returned (.bool true) ∧ Below w.heap.size w w' := by
  obtain ⟨hmax, zs, rfl, hr⟩ := w1.row
  clear w1
  unfold maxLen at hmax
  by_cases h40 : zs.length ≤ 40
  · have hT := pk_bd a0 1000000000001 (by omega)
    by_cases hg : togB zs = true
    · have hok := (togB_iff zs).mp hg
      have hS := sum_bd zs hok.1
      have hS1 : 1 ≤ zs.sum := hok.2
      have hS2 : zs.sum ≤ 100000000 := by omega
      have HG : Hid (togB zs = true) := hg
      have HR : Hid (Row w a1 zs) := hr
      have HO : Hid (zs.all okw = true) := hok.1
      clear hg hok hS hr
      have hp : 0 < zs.length := by
        rcases zs with _ | ⟨z, zs⟩
        · simp at hS1
        · simp
      go_enter Try.func3, Try.ntmps3
      go_wp2_with (first
        | (go_at_call 6; refine (counted_any _).mono ?_; rintro e w1 ⟨rfl, hb1⟩)
        | (go_at_call 7; refine (pick_any _ _ _ (by omega) (by omega)).mono ?_; rintro e w' ⟨rfl, hw⟩; subst w')
        | (go_at_call 8; refine (spread_ok _ _ _ zs _ (HR.out.below hb1) (by omega) (by omega) (by omega) HG.out).mono ?_; rintro e w2 ⟨g, rfl, hrow, hb2⟩))
      have hb12 := hb1.trans (hb2.mono hb1.size)
      have hr2 := HR.out.below hb12
      clear hb1 hb2 HR
      generalize pk a0 1000000000001 = t at *
      obtain ⟨b, off, rfl, hcell⟩ : ∃ b off, a1 = some ⟨b, off, none⟩ ∧ ∀ i, i < zs.length → w2.cell? ⟨b, off + i, none⟩ = some (.int .i64 (zs.getD i 0)) := by
        rcases hr2 with rfl | h
        · simp at hp
        · exact h
      obtain ⟨gb, goff, rfl, hgcell⟩ : ∃ gb goff, g = ⟨gb, goff, none⟩ ∧ ∀ i, i < zs.length → w2.cell? ⟨gb, goff + i, none⟩ = some (.int .i64 (sprAt t zs i)) := by
        rcases hrow with h | ⟨gb, goff, h, hh⟩
        · have := spr_length t zs; rw [h] at this; simp at this; omega
        · refine ⟨gb, goff, by simpa using h, fun i hi => ?_⟩
          rw [hh i (by rw [spr_length]; exact hi), spr_getD t zs i hi]
      have HC : Hid (∀ i, i < zs.length → w2.cell? ⟨b, off + i, none⟩ = some (.int .i64 (zs.getD i 0))) := hcell
      have HGC : Hid (∀ i, i < zs.length → w2.cell? ⟨gb, goff + i, none⟩ = some (.int .i64 (sprAt t zs i))) := hgcell
      clear hcell hgcell hr2 hrow
      go_loop [8, 9] (fun s i => ∃ k : Nat, k ≤ zs.length ∧ i = .int .i64 k ∧ s = .int .i64 (zs.take k).sum) (fun _ i => zs.length - (intOf i).toNat)
      case atStart => exact ⟨0, Nat.zero_le _, rfl, by simp⟩
      case round =>
        obtain ⟨k, hk, rfl, rfl⟩ := hrel
        by_cases hlt : k < zs.length
        · have hc := HC.out k hlt
          have HS : Hid ((zs.take k).sum + zs.getD k 0 = (zs.take (k + 1)).sum) := (sum_step zs k hlt).symm
          have b1 := sum_take_bd zs k HO.out
          have b2 := okw_at zs k hlt HO.out
          generalize zs.getD k 0 = z at hc HS b2
          go_wp2
          go_round
          case rel => exact ⟨k + 1, by omega, by go_num, by rw [HS.out]⟩
          case measure => simp [intOf]; omega
        · have ht : zs.take k = zs := List.take_of_length_le (by omega)
          rw [ht]
          clear ht
          go_wp2
          clear hk hlt
          go_loopw [7, 10] (fun s i wr => ∃ k : Nat, k ≤ zs.length ∧ i = .int .i64 k ∧ s = .int .i64 (upTo t zs k) ∧ ∃ n, wr = w2.drewN n) (fun _ i _ => zs.length - (intOf i).toNat)
          case atStart => exact ⟨0, Nat.zero_le _, rfl, by rw [upTo_zero], 0, rfl⟩
          case round =>
            obtain ⟨k, hk, rfl, rfl, n, rfl⟩ := hrel
            by_cases hlt : k < zs.length
            · have hc := HC.out k hlt
              have hgc := HGC.out k hlt
              have HU : Hid (upTo t zs k + sprAt t zs k = upTo t zs (k + 1)) := by show _ = _; unfold sprAt; omega
              have b1 := upTo_bd t zs k HO.out hS1 hT.1
              have b2 := okw_at zs k hlt HO.out
              have b3 := at_le_sum zs k hlt HO.out
              have b4 := sprAt_bd t zs k hlt hS1
              have HZ : Hid (zs.getD k 0 = 0 → sprAt t zs k = 0) := b4.2.2
              have q1 := quo_bd t (zs.getD k 0) zs.sum hT.1 b2.1 b3 (by omega)
              have q2 := rem_bd t (zs.getD k 0) zs.sum 100000000 b2.1 b3 (by omega) hS2
              have q3 := shr_split t (zs.getD k 0) zs.sum (by omega)
              have q4 := shr_nonneg t (zs.getD k 0) zs.sum hT.1 b2.1 (by omega)
              have q5 := shr_le t (zs.getD k 0) zs.sum hT.1 b3 (by omega)
              have m0 : 0 ≤ t % zs.sum := Int.emod_nonneg t (by omega)
              have m1 : t % zs.sum < zs.sum := Int.emod_lt_of_pos t (by omega)
              have p1 := b4.1
              have p2 := b4.2.1
              have hki : (k : Int) < (zs.length : Int) := by omega
              clear b4
              generalize zs.getD k 0 = z at hc b2 b3 HZ q1 q2 q3 q4 q5 p1 p2
              generalize sprAt t zs k = x at hgc HU HZ p1 p2
              generalize shr t z zs.sum = y at q3 q4 q5 p1 p2
              by_cases hz : z = 0
              · subst hz
                have hx0 : x = 0 := HZ.out rfl
                clear HZ
                go_wp2
                go_quiet (fail)
                go_wp2
                go_roundw
                case rel => exact ⟨k + 1, by omega, by go_num, by rw [← HU.out]; go_num, _, rfl⟩
                case measure => simp [intOf]; omega
              · clear HZ
                go_wp2
                go_quiet (fail)
                go_wp2
                go_roundw
                case rel => exact ⟨k + 1, by omega, by go_num, by rw [HU.out], _, rfl⟩
                case measure => simp [intOf]; omega
            · obtain rfl : k = zs.length := by omega
              have hu := upTo_all t zs hS1
              go_wp2
              go_ret
              exact ⟨rfl, below_drewN hb12 _⟩
    · have HG : Hid (togB zs = false) := by show togB zs = false; simpa using hg
      have HR : Hid (Row w a1 zs) := hr
      clear hg hr
      go_enter Try.func3, Try.ntmps3
      go_wp2_with (first
        | (go_at_call 6; refine (counted_any _).mono ?_; rintro e w1 ⟨rfl, hb1⟩)
        | (go_at_call 7; refine (pick_any _ _ _ (by omega) (by omega)).mono ?_; rintro e w' ⟨rfl, hw⟩; subst w')
        | (go_at_call 8; refine (spread_bad _ _ _ zs _ (HR.out.below hb1) (by omega) (.inl HG.out)).mono ?_; rintro e w2 ⟨rfl, hw⟩; subst w2))
      go_ret
      exact ⟨rfl, hb1⟩
  · go_enter Try.func3, Try.ntmps3
    go_wp2
    go_ret
    exact ⟨rfl, Below.refl _ _⟩
set_option maxRecDepth 100000 in
theorem lifted (os : Os) (started : os.Started) (H : Type) (enc : TypeId × Value → H) :
    ReturnsInHanded {} Try.checked os 3 .any (Rows.moneyWholeSpec.pre6 enc Try.prog Try.f3 Rows.moneyWholeRow.domain false) (Rows.moneyWholeSpec.post enc Try.prog Try.f3 false true false false) := by
  refine returnsInHanded_of_change (C := Try.checked) own started (by kernel_rfl) Try.func3
    (ChangeSpec.witness6 (enc := enc) (C := Try.checked) false ⟨#[], #[.int .i64 0, .slice none 0 0], []⟩ 8 (by kernel_rfl) (by kernel_rfl) (by kernel_rfl) (by kernel_rfl)) ?_
  intro W base args ds gs before hval0 hW hcnd _
  have hval : ∀ (j : Nat) t v, Try.f3.params[j]? = some t → args[j]? = some v → Value.okWide Try.prog W .any base t v := hval0
  have hW' := hW
  obtain ⟨p, q, hA0, hV, rfl, hfz, hnd⟩ := hW
  have hA : DataW.TrodAll enc Try.prog W 0 (fun _ => true) true Try.f3.params.toList args.toList ds p := hA0
  rw [Try.params3] at hA hval
  obtain ⟨v0, vs0, d0, ds0, p0, q0, hargs, rfl, rfl, h0, r0⟩ := trodAll_cons hA
  obtain ⟨v1, vs1, d1, ds1, p1, q1, rfl, rfl, rfl, h1, r1⟩ := trodAll_cons r0
  obtain ⟨rfl, rfl, rfl⟩ := trodAll_nil r1
  obtain rfl : args = #[v0, v1] := by cases args; simp_all
  obtain ⟨rfl, rfl⟩ := trodVars_none hV
  obtain ⟨a0, rfl, rfl, rfl, w0⟩ := open_int Try.underlying3 (hval 0 3 v0 rfl rfl) h0
  obtain ⟨a1, len1, cap1, rfl⟩ := okWide_slice Try.underlying22 (hval 1 22 v1 rfl rfl)
  have k1 := h1
  have lt1 : ∀ x ∈ p1, x.block < W.heap.size := by obtain ⟨m, hm⟩ := k1; exact DataW.trod_lt m _ _ _ hm
  obtain ⟨z1, w1⟩ : ∃ zs, IsRow .i64 W a1 len1 cap1 zs := by
    obtain ⟨fuel, hf⟩ := h1
    rcases open_ints Try.underlying22 Try.underlying3 (by kernel_rfl) hf with ⟨hcs, _⟩ | ⟨x, l, c, zs, hcs, _, hl, hm, hz, _, hcell, hwz⟩
    · simp [Value.cells] at hcs
      obtain ⟨rfl, rfl, rfl⟩ := hcs
      exact ⟨[], .inl ⟨rfl, rfl, rfl, rfl⟩⟩
    · simp [Value.cells] at hcs
      obtain ⟨rfl, rfl, rfl⟩ := hcs
      exact ⟨zs, .inr ⟨_, rfl, hl, hm, by simpa using hz, hcell, hwz⟩⟩
  clear hA0 hval0
  refine (walk a0 a1 len1 cap1 z1 W w0 w1).mono fun e W' ⟨he, bel⟩ => ?_
  subst he
  exact ⟨_, rfl, _, _, _, [], _, [], hW', trodAll_mk1 (shut_bool Try.underlying4 _), (trodAll_cons_mk (shut_int Try.underlying3 w0) (trodAll_cons_mk (Below.trod laidOut (by kernel_rfl) (of_decide_eq_true (by kernel_rfl)) k1 bel lt1) trodAll_mk0)), rfl, bel.frame _, fun h => by cases h⟩
theorem over : Rows.moneyWholeRow.holds Try.pinned (OpenSpec.ofChange Rows.moneyWholeSpec) :=
  OpenClaim.holds_of_wide 3 Try.f3 rfl rfl rfl rfl rfl rfl rfl ⟨rfl, rfl, rfl, rfl, rfl⟩ rfl rfl rfl rfl rfl (by kernel_rfl) Try.func3 (by kernel_rfl)
    (of_decide_eq_true (by kernel_rfl)) (by unfold Func.isWrapper; first | (rw [if_pos (by decide +kernel)]; kernel_rfl) | (rw [if_neg (by decide +kernel)]; exact ⟨rfl, rfl⟩))
    (fun os started H enc _ => lifted os started H enc)
end Go.Proofs.Ytkaihegdjhcflaa.moneyWhole
namespace Go.Proofs.Ytkaihegdjhcflaa
theorem moneyWhole_holds : Rows.MoneyWholeSaid := moneyWhole.over
end Go.Proofs.Ytkaihegdjhcflaa
#print axioms Go.Proofs.Ytkaihegdjhcflaa.moneyWhole_holds
