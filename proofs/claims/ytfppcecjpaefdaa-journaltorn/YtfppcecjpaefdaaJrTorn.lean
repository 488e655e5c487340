/- The walk of tallymankeep.JournalTorn. -/
import Derived.Test.YtfppcecjpaefdaaJrKeep
import Derived.Test.YtfppcecjpaefdaaMoneyPick
namespace Go.Proofs.Ytfppcecjpaefdaa
open Go.RowKit
/-- How far the count of whole frames has come. -/
def Upto (c : Nat) (l : List (List UInt8)) (k : Nat) : Prop := totL (l.take k) ≤ c ∧ wholeK c l = k + wholeK (c - totL (l.take k)) (l.drop k)
theorem Upto.zero (c : Nat) (l : List (List UInt8)) : Upto c l 0 := ⟨Nat.zero_le _, by simp [totL]⟩
theorem Upto.step {c : Nat} {l : List (List UInt8)} {k : Nat} (h : Upto c l k) (hk : k < l.length) (hc : totL (l.take k) + (16 + l[k].length) ≤ c) : Upto c l (k + 1) := by
  obtain ⟨h1, h2⟩ := h
  have e : totL (l.take (k + 1)) = totL (l.take k) + (16 + l[k].length) := by rw [List.take_succ_eq_append_getElem hk, tot_snoc]
  refine ⟨by omega, ?_⟩
  rw [h2, List.drop_eq_getElem_cons hk, wholeK, if_pos (by omega), e]
  rw [show c - (totL (l.take k) + (16 + l[k].length)) = c - totL (l.take k) - (16 + l[k].length) by omega]
  omega
theorem Upto.stop {c : Nat} {l : List (List UInt8)} {k : Nat} (h : Upto c l k) (hk : k < l.length) (hc : ¬ totL (l.take k) + (16 + l[k].length) ≤ c) : wholeK c l = k := by
  obtain ⟨h1, h2⟩ := h
  rw [h2, List.drop_eq_getElem_cons hk, wholeK, if_neg (by omega), Nat.add_zero]
theorem Upto.all {c : Nat} {l : List (List UInt8)} {k : Nat} (h : Upto c l k) (hk : l.length ≤ k) : wholeK c l = k := by
  obtain ⟨h1, h2⟩ := h
  rw [h2, List.drop_of_length_le hk]; rfl
set_option maxHeartbeats 8000000 in
theorem torn_walk (ao : Option Addr) (cap : Nat) (l : List (List UInt8)) (a1 : Int) (w : World) (hev : ∀ t ∈ l, t.length ≤ maxLen) (hat : StrsC w ao l) (hcp : l.length ≤ cap) (hmx : cap ≤ maxLen) (_ : (Lit.int .i64 a1).wf = true) :
    Calls Try.prog 3 #[.slice ao l.length cap, .int .i64 a1] w fun e w' => e = .returned (.bool true) ∧ Below w.heap.size w w' := by
  have HFR := frames_any l ao cap w hev hat (by unfold maxLen at hmx ⊢; omega)
  unfold maxLen at hmx
  have HC : Hid (StrsC w ao l) := hat
  clear hat hev
  go_enter Try.func3, Try.ntmps3
  go_wp2_with fail
  refine HFR.mono ?_
  rintro e wa ⟨rfl | ⟨h20, h200, rfl⟩, hba⟩
  · go_wp2_with fail
    refine (framed_any _).mono ?_
    rintro e wb ⟨rfl, hbb⟩
    go_wp2
    go_ret
    exact ⟨rfl, hba.trans (hbb.mono hba.size)⟩
  · clear HFR
    have H200 : Hid (∀ t ∈ l, t.length ≤ 200) := h200
    clear h200
    have hS : (ba (framesL 0 l)).size = totL l := by rw [ba_size, frames_len]
    have hbd := frames_bd l H200.out
    have HR1 := fun w => jread_any (ba (framesL 0 l)) w (by rw [hS]; omega)
    rw [ba_data] at HR1
    have HRD : Hid (Rd 0 (framesL 0 l) l) := read_frames l 0 (by omega) H200.out
    go_wp2_with fail
    refine (framed_any _).mono ?_
    rintro e wb ⟨rfl, hbb⟩
    have hB : Below w.heap.size w wb := hba.trans (hbb.mono hba.size)
    clear hba hbb
    go_wp2_with fail
    refine (HR1 _).mono ?_
    rintro e wc ⟨v, ls, rfl, hrd, _, hown, hbc⟩
    obtain rfl : ls = l := hrd.same HRD.out
    obtain ⟨mo, mcap, rfl, hmc, hms⟩ := strs_of_own hown
    have hBc : Below w.heap.size w wc := hB.trans (hbc.mono hB.size)
    have HEQ := equal_strs ls mo ao mcap cap wc hms (HC.out.below hBc) (by omega)
    clear hown hbc hB HR1 hrd hms
    go_wp2_with fail
    refine HEQ.mono ?_
    rintro e wd ⟨rfl, hbd2⟩
    have hBd : Below w.heap.size w wd := hBc.trans (hbd2.mono hBc.size)
    clear hBc hbd2 HEQ
    have hpk := pk_bd a1 (totL ls + 1) (by omega)
    go_wp2_with (first
        | (go_at_call 9; refine (pick_any _ _ _ (by omega) (by omega)).mono ?_; rintro e w' ⟨rfl, hw⟩; subst w'))
    obtain ⟨c, hc⟩ : ∃ c : Nat, pk a1 (totL ls + 1) = c := ⟨(pk a1 (totL ls + 1)).toNat, by omega⟩
    rw [hc] at hpk ⊢
    clear hc
    have HX : Hid ((ba (framesL 0 ls)).extract 0 (c : Int).toNat = ba ((framesL 0 ls).take c)) := by
      show _ = _
      rw [← ba_of (ByteArray.extract _ _ _), ext_data, ba_data, List.drop_zero]; rfl
    have HR2 := fun w => jread_any (ba ((framesL 0 ls).take c)) w (by rw [ba_size, List.length_take, frames_len]; omega)
    rw [ba_data] at HR2
    have HRT : Hid (Rd 0 ((framesL 0 ls).take c) (ls.take (wholeK c ls))) := torn ls 0 c (by omega) H200.out (by omega)
    rw [HX.out]
    refine (HR2 _).mono ?_
    rintro e we ⟨v, ms, rfl, hrd2, htm, hown2, hbe⟩
    obtain rfl : ms = ls.take (wholeK c ls) := hrd2.same HRT.out
    obtain ⟨qo, qcap, rfl, hqc, hqs⟩ := strs_of_own hown2
    have hBe : Below w.heap.size w we := hBd.trans (hbe.mono hBd.size)
    have hwl := whole_le c ls
    have HML : Hid ((ls.take (wholeK c ls)).length = wholeK c ls) := by show _ = _; rw [List.length_take]; omega
    have HEQ := equal_strs (ls.take (wholeK c ls)) qo ao qcap cap we hqs ((HC.out.below hBe).take _) (by rw [HML.out]; omega)
    rw [HML.out] at HEQ
    have htm2 : totL (ls.take (wholeK c ls)) ≤ c := by rw [List.length_take] at htm; omega
    rw [HML.out]
    obtain ⟨N, hN⟩ : ∃ N, N = totL (ls.take (wholeK c ls)) := ⟨_, rfl⟩
    have HN : Hid (totL (ls.take (wholeK c ls)) = N) := hN.symm
    rw [← hN] at htm2 ⊢
    obtain ⟨K, hK⟩ : ∃ K, K = wholeK c ls := ⟨_, rfl⟩
    have HK : Hid (wholeK c ls = K) := hK.symm
    rw [← hK] at hwl HEQ ⊢
    clear hN hK hrd2 htm hown2 hqs hbe HR2 HX hBd hqc HML HRT HRD
    go_wp2_with fail
    refine HEQ.mono ?_
    rintro e wf ⟨rfl, hbf⟩
    have hBf : Below w.heap.size w wf := hBe.trans (hbf.mono hBe.size)
    clear hBe hbf HEQ
    go_wp2_with fail
    go_loopw [9, 10] (fun u i wr => ∃ k : Nat, k ≤ ls.length ∧ i = .int .i64 k ∧ u = .int .i64 (totL (ls.take k) : Nat) ∧ Hid (Upto c ls k) ∧ wr = wf) (fun _ i _ => ls.length - (intOf i).toNat)
    case atStart => exact ⟨0, Nat.zero_le _, rfl, rfl, Upto.zero _ _, rfl⟩
    case round =>
      obtain ⟨k, hk, rfl, rfl, HU, rfl⟩ := hrel
      have hu := HU.out.1
      by_cases hlt : k < ls.length
      · obtain ⟨b, o, e1, lt1, c1⟩ := HC.out.below hBf (by omega)
        subst e1
        have d1 := c1 k hlt
        unfold encS at d1
        have ht2 := H200.out ls[k] (List.getElem_mem hlt)
        have HE1 : Hid (totL (ls.take (k + 1)) = totL (ls.take k) + (16 + ls[k].length)) := by show _ = _; rw [List.take_succ_eq_append_getElem hlt, tot_snoc]
        have hst := HU.out.step hlt
        have hsp := HU.out.stop hlt
        obtain ⟨t, ht⟩ : ∃ t, t = ls[k] := ⟨_, rfl⟩
        rw [← ht] at d1 ht2 HE1 hst hsp
        have hz : (ba t).size = t.length := ba_size t
        obtain ⟨T, hT⟩ : ∃ T, T = totL (ls.take k) := ⟨_, rfl⟩
        have HT : Hid (totL (ls.take k) = T) := hT.symm
        rw [← hT] at hu HE1 hst hsp ⊢
        clear ht hT c1
        by_cases hcc : T + (16 + t.length) ≤ c
        · have HS : Hid (Upto c ls (k + 1)) := hst hcc
          clear hst hsp
          go_wp2
          go_roundw
          case rel => exact ⟨k + 1, by omega, by go_num, by rw [HE1.out]; go_num, HS, trivial⟩
          case measure => simp [intOf]; omega
        · have hkk := hsp hcc
          rw [HK.out] at hkk
          have HE : Hid (N = T) := by
            show _ = _
            rw [← HN.out, HK.out, hkk, HT.out]
          clear hst hsp hkk
          go_wp2
          go_ret
          exact ⟨by rw [HE.out]; simp, hBf⟩
      · have hkk := HU.out.all (by omega)
        rw [HK.out] at hkk
        have HE : Hid (N = totL (ls.take k)) := by
          show _ = _
          rw [← HN.out, HK.out, hkk]
        clear hkk
        go_wp2
        go_ret
        exact ⟨by rw [HE.out]; simp, hBf⟩
end Go.Proofs.Ytfppcecjpaefdaa
