/- The walk of tallymankeep.JournalSpoilt. -/
import Derived.Test.YtfppcecjpaefdaaJrTorn
import Derived.Test.YtfppcecjpaefdaaMixE
import Derived.Laws.IdiomStrings
namespace Go.Proofs.Ytfppcecjpaefdaa
open Go.RowKit
theorem xor_other (x d : Nat) (hx : x < 256) (hd : 1 ≤ d) (hd2 : d < 256) : ((x ^^^ d).toUInt8).toNat = x ^^^ d ∧ x ^^^ d ≠ x := by
  have hl : x ^^^ d < 2 ^ 8 := Nat.xor_lt_two_pow (by omega) (by omega)
  refine ⟨?_, fun e => ?_⟩
  · show (UInt8.ofNat (x ^^^ d)).toNat = _
    rw [UInt8.toNat_ofNat']; omega
  · have := congrArg (x ^^^ ·) e
    simp only [← Nat.xor_assoc, Nat.xor_self, Nat.zero_xor] at this
    omega
set_option maxHeartbeats 8000000 in
theorem spoilt_walk (ao : Option Addr) (cap : Nat) (l : List (List UInt8)) (a1 a2 : Int) (w : World) (hev : ∀ t ∈ l, t.length ≤ maxLen) (hat : StrsC w ao l) (hcp : l.length ≤ cap) (hmx : cap ≤ maxLen) (_ : (Lit.int .i64 a1).wf = true) (_ : (Lit.int .i64 a2).wf = true) :
    Calls Try.prog 4 #[.slice ao l.length cap, .int .i64 a1, .int .i64 a2] w fun e w' => e = .returned (.bool true) ∧ Below w.heap.size w w' := by
  have HFR := frames_any l ao cap w hev hat (by unfold maxLen at hmx ⊢; omega)
  unfold maxLen at hmx
  have HC : Hid (StrsC w ao l) := hat
  clear hat hev
  go_enter Try.func4, Try.ntmps4
  go_wp2_with fail
  refine HFR.mono ?_
  rintro e wa ⟨rfl | ⟨h20, h200, rfl⟩, hba⟩
  · go_wp2_with fail
    refine (framed_any _).mono ?_
    rintro e wb ⟨rfl, hbb⟩
    go_wp2
    go_ret
    exact ⟨rfl, hba.trans (hbb.mono hba.size)⟩
  · clear HFR
    have H200 : Hid (∀ t ∈ l, t.length ≤ 200) := h200
    clear h200
    have hS : (ba (framesL 0 l)).size = totL l := by rw [ba_size, frames_len]
    have hbd := frames_bd l H200.out
    go_wp2_with fail
    refine (framed_any _).mono ?_
    rintro e wb ⟨rfl, hbb⟩
    have hB : Below w.heap.size w wb := hba.trans (hbb.mono hba.size)
    clear hba hbb
    by_cases h0 : totL l = 0
    · go_wp2
      go_ret
      exact ⟨rfl, hB⟩
    · have hpk := pk_bd a1 (totL l) (by omega)
      have hcv := run_bytes_of_string (P := Try.prog) wb 9 31 5 (ba (framesL 0 l)) Try.underlying9 Try.underlying31 Try.underlying5
      obtain ⟨gc, hgc⟩ : ∃ gc, gc = grownCap wb (ba (framesL 0 l)).size 0 5 := ⟨_, rfl⟩
      rw [← hgc] at hcv
      obtain ⟨W1, hW1⟩ : ∃ W, W = wb.drew.alloc (.cells (bytesRow (ba (framesL 0 l)) gc) 5 ((bytesRow (ba (framesL 0 l)) gc).size, (bytesRow (ba (framesL 0 l)) gc).size + 1)) := ⟨_, rfl⟩
      rw [← hW1, hS] at hcv
      obtain ⟨F, hF⟩ : ∃ F, F = framesL 0 l := ⟨_, rfl⟩
      have HFl : Hid (framesL 0 l = F) := hF.symm
      have hFl : F.length = totL l := by rw [hF, frames_len]
      rw [← hF] at hW1 hcv ⊢
      rw [← hF] at hS
      have hcell : ∀ j (hj : j < F.length), W1.cell? ⟨wb.heap.size, j, none⟩ = some (.int .u8 (F[j].toNat : Int)) := fun j hj => by
        rw [hW1, show wb.heap.size = wb.drew.heap.size from rfl, World.cell?_alloc_mark, bytesRow_at _ _ _ (by show j < (ba F).size; rw [ba_size]; exact hj)]
        rfl
      have hfrz : ∀ j, j < F.length → W1.frozen? ⟨wb.heap.size, j, none⟩ = false := fun j hj => by
        rw [hW1, show wb.heap.size = wb.drew.heap.size from rfl, World.frozen?_alloc_mark]
        have : (bytesRow (ba F) gc).size ≥ F.length := by
          unfold bytesRow
          rw [Array.size_append, Array.size_map]
          have : (ba F).data.size = F.length := ba_size F
          omega
        simp; omega
      have hB1 : Below w.heap.size w W1 := by
        rw [hW1]
        exact ((hB.trans ((below_drew _).mono hB.size))).alloc hB.size _
      have hsz1 : W1.heap.size = wb.heap.size + 1 := by rw [hW1]; simp
      clear hgc hW1 hF
      have HCE : Hid (∀ j (hj : j < F.length), W1.cell? ⟨wb.heap.size, j, none⟩ = some (.int .u8 (F[j].toNat : Int))) := hcell
      have HFZ : Hid (∀ j, j < F.length → W1.frozen? ⟨wb.heap.size, j, none⟩ = false) := hfrz
      have HSZ : Hid (W1.heap.size = wb.heap.size + 1) := hsz1
      clear hcell hfrz hsz1
      go_wp2_with (first
        | (go_at_call 9; refine (pick_any _ _ _ (by omega) (by omega)).mono ?_; rintro e w' ⟨rfl, hw⟩; subst w'))
      obtain ⟨p, hp⟩ : ∃ p : Nat, pk a1 (totL l) = p := ⟨(pk a1 (totL l)).toNat, by omega⟩
      rw [hp] at hpk ⊢
      have hpl : p < F.length := by omega
      have c0 := HCE.out p hpl
      have z0 := HFZ.out p hpl
      have hx := byte_lt F[p]
      obtain ⟨x, hxv⟩ : ∃ x, x = F[p].toNat := ⟨_, rfl⟩
      rw [← hxv] at c0 hx
      have HXV : Hid (x = F[p].toNat) := hxv
      clear hxv
      have hd := pk_bd a2 255 (by omega)
      obtain ⟨d, hdv⟩ : ∃ d : Nat, pk a2 255 = d := ⟨(pk a2 255).toNat, by omega⟩
      have HPK := fun w => pick_any a2 255 w (by omega) (by omega)
      rw [hdv] at hd HPK
      have hxd := xor_other x (1 + d) hx (by omega) (by omega)
      have h8 := u8_xor_nat x (1 + d) hx (by omega)
      obtain ⟨g, hg⟩ : ∃ g, g = wb.heap.size := ⟨_, rfl⟩
      rw [← hg] at c0 z0 HCE HFZ HSZ ⊢
      have HG : Hid (g = wb.heap.size) := hg
      clear hcv hp hdv hg
      obtain ⟨W1d, hW1d⟩ : ∃ W, W = W1.drew := ⟨_, rfl⟩
      refine wp_region_turn [(.pure, 0), (.pure, 1), (.pure, 2), (.read, 3), (.pure, 4), (.make, 5), (.pure, 6), (.make, 7), (.pure, 8), (.pure, 9), (.turn, 10)] (by kernel_rfl) (by kernel_rfl) ?_
      rw [← hW1d]
      have c1 : W1d.cell? ⟨g, p, none⟩ = some (.int .u8 (x : Int)) := by rw [hW1d]; exact c0
      have z1 : W1d.frozen? ⟨g, p, none⟩ = false := by rw [hW1d]; exact z0
      have HWD : Hid (W1d = W1.drew) := hW1d
      clear hW1d
      have hU := up_ne
      have hA := anyW_ne
      have g0 := fun n : Up W1d => n.cell c1
      repeat (first | refine turn_p rfl ?_ | refine turn_q rfl ?_); go_big_quiet_step (fail); refine wpQuiet_nil ?_
      refine turn_n rfl ?_
      go_wp2_with fail
      refine (HPK _).mono ?_
      rintro e w2 ⟨rfl, rfl⟩
      go_wp2_with fail
      refine ⟨rfl, Below.refl _ _, ?_⟩
      repeat (first | refine turn_p rfl ?_ | refine turn_q rfl ?_); go_big_quiet_step (fail); refine wpQuiet_nil ?_
      refine turn_n rfl ?_
      go_wp2_with fail
      refine ⟨rfl, Below.refl _ _, ?_⟩
      repeat (first | refine turn_p rfl ?_ | refine turn_q rfl ?_); go_big_quiet_step (fail); refine wpQuiet_nil ?_
      refine turn_t rfl ?_
      go_wp2_with fail
      refine ⟨rfl, ?_⟩
      refine turn_nil ?_
      rw [show ((1 : Int) + (d : Int)) = ((1 + d : Nat) : Int) by omega, h8]
      obtain ⟨y, hy⟩ : ∃ y, y = (x ^^^ (1 + d)).toUInt8 := ⟨_, rfl⟩
      have hyn : ((x ^^^ (1 + d) : Nat) : Int) = (y.toNat : Int) := by rw [hy, hxd.1]
      rw [hyn]
      have HNE : Hid (F[p]? ≠ some y) := by
        show _ ≠ _
        rw [List.getElem?_eq_getElem hpl]
        intro e
        have e2 : y.toNat = x := by rw [HXV.out, Option.some.inj e]
        rw [hy, hxd.1] at e2
        exact hxd.2 e2
      clear h8 hxd hyn hy
      obtain ⟨W2, hW2⟩ : ∃ W, W = w2.setCell ⟨g, p, none⟩ (.int .u8 (y.toNat : Int)) := ⟨_, rfl⟩
      rw [← hW2]
      have hsl : (F.set p y).length = totL l := by rw [List.length_set, hFl]
      have hcl2 : ∀ j (hj : j < (F.set p y).length), W2.cell? ((⟨g, 0, none⟩ : Addr).add j) = some (.int .u8 ((F.set p y)[j].toNat : Int)) := fun j hj => by
        rw [List.length_set] at hj
        rw [hW2, Addr.add_lit, Nat.zero_add, List.getElem_set]
        by_cases e : p = j
        · subst e
          rw [if_pos rfl]
          exact World.cell?_setCell_same _ _ _ c1
        · rw [if_neg e, World.cell?_setCell_other _ _ _ _ (fun h => e (congrArg Addr.off h)), HWD.out]
          exact HCE.out j hj
      have hback := run_convert_bytes_back (P := Try.prog) W2 31 9 5 ⟨g, 0, none⟩ gc (F.set p y) Try.underlying31 Try.underlying5 Try.underlying9 hcl2
      rw [hsl] at hback
      have hback2 : (convert 31 9 (.slice (some ⟨g, 0, none⟩) (totL l) gc)).run Try.prog W2 = .ok (.string (ba (F.set p y))) W2 := hback
      have hB2 : Below w.heap.size w W2 := by
        rw [hW2]
        have h1 : Below w.heap.size w w2 := by rw [HWD.out]; exact hB1.trans ((below_drew _).mono hB1.size)
        exact h1.setCell (p := ⟨g, p, none⟩) (by have := hB.size; rw [HG.out]; exact this) _
      have HR2 := fun w => jread_any (ba (F.set p y)) w (by rw [ba_size, hsl]; omega)
      rw [ba_data] at HR2
      have HRT : Hid (Rd 0 (F.set p y) (l.take (wholeK p l))) := by
        show Rd _ _ _
        have hne := HNE.out
        rw [← HFl.out] at hne ⊢
        exact spoilt l 0 p y (by omega) H200.out (by omega) hne
      clear hW2 hcl2 hback c0 z0 c1 z1 g0 hU hA HPK hB hB1
      go_wp2_with fail
      refine (HR2 _).mono ?_
      rintro e we ⟨v, ms, rfl, hrd2, htm, hown2, hbe⟩
      obtain rfl : ms = l.take (wholeK p l) := hrd2.same HRT.out
      obtain ⟨qo, qcap, rfl, hqc, hqs⟩ := strs_of_own hown2
      have hBe : Below w.heap.size w we := hB2.trans (hbe.mono hB2.size)
      have hwl := whole_le p l
      have HML : Hid ((l.take (wholeK p l)).length = wholeK p l) := by show _ = _; rw [List.length_take]; omega
      have HEQ := equal_strs (l.take (wholeK p l)) qo ao qcap cap we hqs ((HC.out.below hBe).take _) (by rw [HML.out]; omega)
      rw [HML.out] at HEQ
      rw [HML.out]
      obtain ⟨N, hN⟩ : ∃ N, N = totL (l.take (wholeK p l)) := ⟨_, rfl⟩
      rw [← hN]
      obtain ⟨K, hK⟩ : ∃ K, K = wholeK p l := ⟨_, rfl⟩
      have HK : Hid (wholeK p l = K) := hK.symm
      rw [← hK] at hwl HEQ ⊢
      clear hN hK hrd2 htm hown2 hqs hbe HR2 hqc HML HRT hback2 HNE HWD HCE HFZ HSZ HG HXV hsl hB2
      go_wp2_with fail
      go_loopw [12, 13] (fun u i wr => ∃ k : Nat, k ≤ l.length ∧ i = .int .i64 k ∧ u = .int .i64 (totL (l.take k) : Nat) ∧ Hid (Upto p l k) ∧ wr = we) (fun _ i _ => l.length - (intOf i).toNat)
      case atStart => exact ⟨0, Nat.zero_le _, rfl, rfl, Upto.zero _ _, rfl⟩
      case round =>
        obtain ⟨k, hk, rfl, rfl, HU, rfl⟩ := hrel
        have hu := HU.out.1
        by_cases hlt : k < l.length
        · obtain ⟨b, o, e1, lt1, cc1⟩ := HC.out.below hBe (by omega)
          subst e1
          have d1 := cc1 k hlt
          unfold encS at d1
          have ht2 := H200.out l[k] (List.getElem_mem hlt)
          have HE1 : Hid (totL (l.take (k + 1)) = totL (l.take k) + (16 + l[k].length)) := by show _ = _; rw [List.take_succ_eq_append_getElem hlt, tot_snoc]
          have hst := HU.out.step hlt
          have hsp := HU.out.stop hlt
          obtain ⟨t, ht⟩ : ∃ t, t = l[k] := ⟨_, rfl⟩
          rw [← ht] at d1 ht2 HE1 hst hsp
          have hz : (ba t).size = t.length := ba_size t
          obtain ⟨T, hT⟩ : ∃ T, T = totL (l.take k) := ⟨_, rfl⟩
          rw [← hT] at hu HE1 hst hsp ⊢
          clear ht hT cc1
          by_cases hcc : T + (16 + t.length) ≤ p
          · have HS : Hid (Upto p l (k + 1)) := hst hcc
            clear hst hsp
            go_wp2
            go_roundw
            case rel => exact ⟨k + 1, by omega, by go_num, by rw [HE1.out]; go_num, HS, trivial⟩
            case measure => simp [intOf]; omega
          · have hkk := hsp hcc
            rw [HK.out] at hkk
            subst hkk
            clear hst hsp
            go_wp2_with fail
            refine HEQ.mono ?_
            rintro e wf ⟨rfl, hbf⟩
            go_wp2
            go_ret
            exact ⟨rfl, hBe.trans (hbf.mono hBe.size)⟩
        · have hkk := HU.out.all (by omega)
          rw [HK.out] at hkk
          subst hkk
          go_wp2_with fail
          refine HEQ.mono ?_
          rintro e wf ⟨rfl, hbf⟩
          go_wp2
          go_ret
          exact ⟨rfl, hBe.trans (hbf.mono hBe.size)⟩
end Go.Proofs.Ytfppcecjpaefdaa
