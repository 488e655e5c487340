/- The walk of tallymankeep.pick: a number below n, whatever a is. One byte and another one, in plain mathematics (split off JrSpoil). The walk of tallymankeep.HouseTorn. -/
import Derived.Test.YtdkhohlhdiekmaaGreatDoorRows
import Derived.WalkKit
import Derived.ProofKit
import Derived.OpenShut
import Derived.WalkSpells
import Derived.Test.YtdkhohlhdiekmaaGreatDoorBnA
import Derived.Test.YtdkhohlhdiekmaaGreatDoorHsRefW
import Derived.Laws.IdiomStrings
import Derived.Deep.DeepCutAuto
import Derived.Test.YtdkhohlhdiekmaaGreatDoorBnHc
namespace Go.Proofs.YtdkhohlhdiekmaaGreatDoor
open Go.RowKit
def pk (a n : Int) : Int := a % 18446744073709551616 % n
theorem pk_bd (a n : Int) (h : 1 ≤ n) : 0 ≤ pk a n ∧ pk a n < n := by
  unfold pk
  exact ⟨Int.emod_nonneg _ (by omega), Int.emod_lt_of_pos _ (by omega)⟩
theorem pick_eq (a n : Int) (h : 1 ≤ n) (h' : n ≤ 4000000000000000000) : wrap64 ((IntKind.u64.wrap a).tmod n) = pk a n := by
  have hb := pk_bd a n h
  have e : (IntKind.u64.wrap a).tmod n = pk a n := by
    rw [IntKind.wrap_u64, Int.tmod_eq_emod_of_nonneg (by omega)]; rfl
  rw [e]; exact IntWalk.wrap64_in _ ⟨by omega, by omega⟩
theorem pick_any (a n : Int) (w : World) (h : 1 ≤ n) (h' : n ≤ 4000000000000000000) :
    Calls Tryz.prog 21 #[.int .i64 a, .int .i64 n] w fun e w' => e = .returned (.int .i64 (pk a n)) ∧ w' = w := by
  go_enter Tryz.func21, Tryz.ntmps21
  go_wp2
  go_ret
  exact ⟨congrArg (fun x => Ending.returned (.int .i64 x)) (pick_eq a n h h'), rfl⟩
end Go.Proofs.YtdkhohlhdiekmaaGreatDoor
namespace Go.Proofs.YtdkhohlhdiekmaaGreatDoor
open Go.RowKit
theorem xor_other (x d : Nat) (hx : x < 256) (hd : 1 ≤ d) (hd2 : d < 256) : ((x ^^^ d).toUInt8).toNat = x ^^^ d ∧ x ^^^ d ≠ x := by
  have hl : x ^^^ d < 2 ^ 8 := Nat.xor_lt_two_pow (by omega) (by omega)
  refine ⟨?_, fun e => ?_⟩
  · show (UInt8.ofNat (x ^^^ d)).toNat = _
    rw [UInt8.toNat_ofNat']; omega
  · have := congrArg (x ^^^ ·) e
    simp only [← Nat.xor_assoc, Nat.xor_self, Nat.zero_xor] at this
    omega
end Go.Proofs.YtdkhohlhdiekmaaGreatDoor
namespace Go.Proofs.YtdkhohlhdiekmaaGreatDoor
open Go.RowKit
/-- A house to which lines were done, and a list of those. -/
def DoneI (w2 : World) (p k : Nat) (dv : Value) (wr : World) : Prop := ∃ st s c, HsAt wr w2.heap.size p s c st ∧ HsOk st ∧ Made st ∧ st.ls.length ≤ k ∧ Below w2.heap.size w2 wr
  ∧ wr.ownsRow w2.heap.size 9 1 dv st.ls.length (st.ls.map encS) ∧ ∀ b, dv.ownBlock = some b → ¬ Mine p s c b
theorem done_new (w : World) : DoneI w w.heap.size 0 (.slice none 0 0) (w.alloc (.cells #[.slice none 0 0, .int .i64 0, .int .i64 0, .slice none 0 0, .string ⟨#[]⟩, .int .i64 0] 31)) :=
  ⟨hs0, _, _, house_new w _ (Nat.le_refl _), ok_zero, made_zero, by simp [hs0], (Below.refl _ _).alloc (Nat.le_refl _) _, World.ownsRow_nil _ _ _ _, by simp [Value.ownBlock]⟩
/-- What one byte more or less makes of a journal, or its end that is cut off. -/
def Tears (ls : List (List UInt8)) (t : List UInt8) : Prop := t.length ≤ 100000 ∧ ∃ K, K ≤ ls.length ∧ Rd 0 t (ls.take K)
/-- Bytes of which those lines are read that lie ahead of what is spoilt. -/
def BytesP (w0 : World) (g : Nat) (ls : List (List UInt8)) (n : Nat) (wx : World) : Prop := ∃ F' : List UInt8, F'.length = n ∧ (∀ j (_ : j < F'.length), wx.cell? ⟨g, j, none⟩ = some (.int .u8 (F'[j].toNat : Int))) ∧ Tears ls F' ∧ Below w0.heap.size w0 wx
/-- Two texts in a row of their own. -/
def TextsP (w0 : World) (t0 t1 : List UInt8) (s82 s83 s84 : Value) (wx : World) : Prop := ∃ rb cp, s82 = .slice (some ⟨rb, 0, none⟩) 2 cp ∧ s83 = .int .i64 2 ∧ s84 = .int .i64 0 ∧ rb < wx.heap.size ∧ wx.cell? ⟨rb, 0, none⟩ = some (.string (ba t0)) ∧ wx.cell? ⟨rb, 1, none⟩ = some (.string (ba t1)) ∧ Below w0.heap.size w0 wx
/-- A house to which the first so many lines were done. -/
def FirstI (w7 : World) (px : Nat) (ls : List (List UInt8)) (i : Nat) (wr : World) : Prop := ∃ s c, HsAt wr w7.heap.size px s c (runH (ls.take i)) ∧ Below w7.heap.size w7 wr
theorem first_new (w : World) (ls : List (List UInt8)) : FirstI w w.heap.size ls 0 (w.alloc (.cells #[.slice none 0 0, .int .i64 0, .int .i64 0, .slice none 0 0, .string ⟨#[]⟩, .int .i64 0] 31)) :=
  ⟨_, _, house_new w _ (Nat.le_refl _), (Below.refl _ _).alloc (Nat.le_refl _) _⟩
set_option maxRecDepth 20000 in
set_option maxHeartbeats 8000000 in
theorem htorn_walk (ao : Option Addr) (cap : Nat) (l : List (List UInt8)) (a1 a2 : Int) (w : World) (hg : GlobH w) (hev : ∀ t ∈ l, t.length ≤ maxLen) (hat : StrsC w ao l) (hcp : l.length ≤ cap) (hmx : cap ≤ maxLen) (_ : (Lit.int .i64 a1).wf = true) (_ : (Lit.int .i64 a2).wf = true) :
    Calls Tryz.prog 5 #[.slice ao l.length cap, .int .i64 a1, .int .i64 a2] w fun e w' => e = .returned (.bool true) ∧ Below w.heap.size w w' := by
  obtain ⟨i0, hi, hz0, hz1, hz2⟩ := info_parts Tryz.infoStrJ
  have hli := lines_any l ao cap w hat hev (by omega)
  have HC := hidE hat
  have HG := hidE hg
  clear hat hev hg
  go_enter Tryz.func5, Tryz.ntmps5
  go_wp2_with fail
  refine hli.mono ?_
  rintro x w1 ⟨⟨bb, rfl, hbb⟩, hb1⟩
  clear hli
  cases bb with
  | false =>
    clear hbb
    go_wp2
    go_ret
    exact ⟨rfl, hb1⟩
  | true =>
  obtain ⟨h30, h250⟩ := hbb rfl
  have H250 := hidE h250
  have hke := kept_any w1 (HG.out.below hb1)
  clear hbb h250
  go_wp2_with fail
  refine hke.mono ?_
  rintro x w2 ⟨rfl, hb2'⟩
  have hb2 : Below w.heap.size w w2 := hb1.trans (hb2'.mono hb1.size)
  clear hke hb1 hb2'
  have HN := hidE (done_new w2)
  have hG2 := hidE (HG.out.below hb2)
  have hs2 := hb2.size
  obtain ⟨W3, hW3⟩ : ∃ W, W = w2.alloc (.cells #[.slice none 0 0, .int .i64 0, .int .i64 0, .slice none 0 0, .string ⟨#[]⟩, .int .i64 0] 31) := ⟨_, rfl⟩
  rw [← hW3] at HN
  have HW3 : Hid (W3 = _) := hW3
  have HC2 : Hid (StrsC w2 ao l) := HC.out.below hb2
  have HB2 := hidE hb2
  clear hW3 HC HG hb2
  go_wp2_with fail
  rw [← HW3.out]
  obtain ⟨p1, hp1⟩ : ∃ p, p = w2.heap.size := ⟨_, rfl⟩
  rw [← hp1]
  have HN2 : Hid (DoneI w2 p1 0 (.slice none 0 0) W3) := by rw [hp1]; exact HN.out
  clear hp1 HN HW3
  go_loopw [8, 9] (fun dv i wr => ∃ k : Nat, k ≤ l.length ∧ i = .int .i64 k ∧ Hid (DoneI w2 p1 k dv wr)) (fun _ i _ => l.length - (intOf i).toNat)
  case atStart => exact ⟨0, Nat.zero_le _, rfl, HN2⟩
  case round =>
    obtain ⟨k, hk, rfl, HS⟩ := hrel
    obtain ⟨st, s1, c1, hA1, hok, hma, hcnt, hbl, hown, hap⟩ := HS.out
    by_cases hlt : k < l.length
    · obtain ⟨b, o, e1, lt1, c1'⟩ := HC2.out (by omega)
      subst e1
      have HCL : Hid (∀ W, Below w2.heap.size w2 W → W.cell? ⟨b, o + k, none⟩ = some (encS l[k])) := fun W hb => (hb.cell (p := ⟨b, o + k, none⟩) lt1).trans (c1' k hlt)
      have d1 := HCL.out wr hbl
      have ht2 := H250.out _ (List.getElem_mem hlt)
      have hgr : Ground w2.heap.size wr := ⟨w2, hG2.out, Nat.le_refl _, hbl⟩
      have hdo := do_any hA1 hok (by omega) hgr l[k] (by omega)
      obtain ⟨t, ht⟩ : ∃ t, t = l[k] := ⟨_, rfl⟩
      rw [← ht] at d1 hdo ht2 HCL
      unfold encS at d1 HCL
      have hcn := do_count st t
      have hok2 := do_keeps t hok (by omega)
      have hma2 := hma.step t
      obtain ⟨ad, dcap, hdv⟩ : ∃ ad cp, u8 = .slice ad st.ls.length cp := by
        rcases own_form hown with ⟨hv, hn, _⟩ | ⟨g, cp, hv, _⟩
        · exact ⟨none, 0, by rw [hv, hn]⟩
        · exact ⟨_, _, hv⟩
      subst hdv
      have HA1 := hidE hA1
      have HOW := hidE hown
      have HAP := hidE hap
      have HBL := hidE hbl
      have HO2 := hidE hok2
      have HM2 := hidE hma2
      clear c1' ht HS hok hbl hgr hma hA1 hown hap hok2 hma2
      go_wp2_with fail
      refine hdo.mono ?_
      rintro x w4 ⟨sv', cv', rfl, hA4, hT4⟩
      have hB4 : Below w2.heap.size w2 w4 := hT4.below HA1.out HBL.out HBL.out.size
      have hO4 : w4.ownsRow w2.heap.size 9 1 (.slice ad st.ls.length dcap) st.ls.length (st.ls.map encS) := row_same HOW.out fun j hj => hT4.block j (HOW.out.lt j hj).2 (HAP.out j hj)
      have hP4 : ∀ b, (Value.slice ad st.ls.length dcap).ownBlock = some b → ¬ Mine p1 sv' cv' b := fun j hj hm => by
        rcases hT4.fresh j hm with x | x
        · exact HAP.out j hj x
        · have := (HOW.out.lt j hj).2; omega
      have HA4 := hidE hA4
      have HB4 := hidE hB4
      have HO4 := hidE hO4
      have HP4 := hidE hP4
      clear hdo hA4 hT4 hB4 hO4 hP4 d1 HA1 HOW HAP HBL
      by_cases hc : (doH st t).c = 0
      · have d2 := HCL.out w4 HB4.out
        have hls := (do_ok hc).1
        rw [hc, show errV 0 = Value.nilIface from rfl]
        have HLS := hidE hls
        have hz8 : (ba t).size = t.length := ba_size t
        have hs4 := HB4.out.size
        clear hc hls HCL
        go_wp2_with (first
          | (at_builtin; refine wpList_append_new _ rfl _ _ 22 rfl w2.heap.size 9 i0 (.string ⟨#[]⟩) 1 16 Tryz.underlying22 hi hz0 hz1 hz2 rfl (by decide) _ _ _ rfl (HO4.out.alloc _) ⟨w4.heap.size, 0, none⟩ 1 1 [encS t] rfl rfl ?d1 ?d2 ?d3 ?d4 ?d5 (by decide) ?_)
          | go_in)
        case d1 => exact cells_of_list rfl
        case d2 => intro u hu; simp only [List.mem_singleton] at hu; subst hu; rfl
        case d3 => unfold maxLen; omega
        case d4 => omega
        case d5 => simp; omega
        intro v' w5 hown5 hgr5 hfr5
        have HS5 : Hid (DoneI w2 p1 (k + 1) v' w5) := by
          have hb' : Below w4.heap.size w4 (w4.alloc (.cells [encS t].toArray 9)) := (Below.refl _ _).alloc (Nat.le_refl _) _
          have hA' := HA4.out.below hb'
          refine ⟨_, _, _, hA'.same fun j hj => hgr5.block j (hA'.mine hj).2 (fun e => HP4.out j e.symm hj), HO2.out, HM2.out, by omega, ?_, ?_, ?_⟩
          · exact (HB4.out.alloc HB4.out.size _).grown hgr5 (by simp; omega) (fun j hj => (HO4.out.lt j hj).1)
          · rw [HLS.out, List.length_append, List.map_append]
            exact hown5
          · intro j hj hm
            rcases hfr5 j hj with x | x
            · exact HP4.out j x hm
            · have h1 := (HA4.out.mine hm).2
              simp at x
              omega
        clear hown5 hgr5 hfr5
        go_wp2
        go_roundw
        case rel => exact ⟨k + 1, by omega, by go_num, HS5⟩
        case measure => simp [intOf]; omega
      · have hls := (do_err hc).1
        have HS5 : Hid (DoneI w2 p1 (k + 1) (.slice ad st.ls.length dcap) w4) := by
          have a4 := HA4.out
          have m2 := HM2.out
          rw [hls] at a4 m2
          have o2 := HO2.out
          rw [hls] at o2
          exact ⟨st, _, _, a4, o2, m2, by omega, HB4.out, HO4.out, HP4.out⟩
        rw [errV_ne hc]
        clear hc hls
        go_wp2
        go_roundw
        case rel => exact ⟨k + 1, by omega, by go_num, HS5⟩
        case measure => simp [intOf]; omega
    · have hj := journal_any hA1
      obtain ⟨F, hF⟩ : ∃ F, F = framesL 0 st.ls := ⟨_, rfl⟩
      have hFl : F.length = totL st.ls := by rw [hF, frames_len]
      have hFb : F.length ≤ 6480 := by
        rw [hFl]
        have := frames_bdH st.ls hok.ls
        omega
      have hFz : (ba F).size = F.length := ba_size F
      have HF : Hid (F = framesL 0 st.ls) := hF
      have HFL := hidE hFl
      rw [← hF] at hj
      obtain ⟨dao, dcap, hdv, hdc, hds⟩ := strs_of_own hown
      subst hdv
      have HDS := hidE hds
      have HMA := hidE hma
      have H200 : Hid (∀ t ∈ st.ls, t.length ≤ 200) := hok.ls
      have HBL := hidE hbl
      have hpk := pk_bd a1 ((F.length : Int) + 1) (by omega)
      have HPK := fun w => pick_any a1 ((F.length : Int) + 1) w (by omega) (by omega)
      obtain ⟨c, hc⟩ : ∃ c : Nat, pk a1 ((F.length : Int) + 1) = c := ⟨(pk a1 ((F.length : Int) + 1)).toNat, by omega⟩
      rw [hc] at hpk HPK
      have hcv := run_bytes_of_string (P := Tryz.prog) wr 9 66 5 (ba F) Tryz.underlying9 Tryz.underlying66 Tryz.underlying5
      obtain ⟨gc, hgc⟩ : ∃ gc, gc = grownCap wr (ba F).size 0 5 := ⟨_, rfl⟩
      rw [← hgc] at hcv
      obtain ⟨W1, hW1⟩ : ∃ W, W = wr.drew.alloc (.cells (bytesRow (ba F) gc) 5 ((bytesRow (ba F) gc).size, (bytesRow (ba F) gc).size + 1)) := ⟨_, rfl⟩
      rw [← hW1, hFz] at hcv
      have hcell : ∀ j (hj : j < F.length), W1.cell? ⟨wr.heap.size, j, none⟩ = some (.int .u8 (F[j].toNat : Int)) := fun j hj => by
        rw [hW1, show wr.heap.size = wr.drew.heap.size from rfl, World.cell?_alloc_mark, bytesRow_at _ _ _ (by show j < (ba F).size; rw [ba_size]; exact hj)]
        rfl
      have hfrz : ∀ j, j < F.length → W1.frozen? ⟨wr.heap.size, j, none⟩ = false := fun j hj => by
        rw [hW1, show wr.heap.size = wr.drew.heap.size from rfl, World.frozen?_alloc_mark]
        have : (bytesRow (ba F) gc).size ≥ F.length := by
          unfold bytesRow
          rw [Array.size_append, Array.size_map]
          have : (ba F).data.size = F.length := ba_size F
          omega
        simp; omega
      have hB1 : Below wr.heap.size wr W1 := by
        rw [hW1]
        exact (below_drew _).alloc (Nat.le_refl _) _
      have HCE := hidE hcell
      have HFZ := hidE hfrz
      have HB1 := hidE hB1
      have hle1 : wr.heap.size < W1.heap.size := by rw [hW1]; simp
      clear hFl hgc hW1 hF hcell hfrz hB1 hc HS hA1 hok hma hbl hown hap hds
      go_wp2_with fail
      refine hj.mono ?_
      rintro x w3 ⟨rfl, hw3⟩
      subst w3
      clear hj
      go_wp2_with fail
      refine (HPK _).mono ?_
      rintro x w3 ⟨rfl, hw3⟩
      subst w3
      clear HPK
      go_upto_if 66 with fail
      obtain ⟨g, hg⟩ : ∃ g, g = wr.heap.size := ⟨_, rfl⟩
      rw [← hg] at HCE HFZ hle1
      rw [← hg]
      have HG : Hid (g = wr.heap.size) := hg
      have HST : Hid (∀ K, st.ls.length = K → K ≤ 30) := fun K hK => by omega
      clear hg hcv
      go_cut [] (fun wx => BytesP wr g st.ls F.length wx)
      case first =>
        by_cases hcl : c < F.length
        · have hcl' : (c : Int) < (F.length : Int) := by omega
          have c0 := HCE.out c hcl
          have z0 := HFZ.out c hcl
          have hx := byte_lt F[c]
          obtain ⟨x, hxv⟩ : ∃ x, x = F[c].toNat := ⟨_, rfl⟩
          rw [← hxv] at c0 hx
          have HXV : Hid (x = F[c].toNat) := hxv
          clear hxv
          have hd := pk_bd a2 255 (by omega)
          obtain ⟨d, hdv⟩ : ∃ d : Nat, pk a2 255 = d := ⟨(pk a2 255).toNat, by omega⟩
          have HPK := fun w => pick_any a2 255 w (by omega) (by omega)
          rw [hdv] at hd HPK
          have hxd := xor_other x (1 + d) hx (by omega) (by omega)
          have h8 := u8_xor_nat x (1 + d) hx (by omega)
          clear hdv
          go_wp2_with fail
          obtain ⟨W1d, hW1d⟩ : ∃ W, W = W1.drew := ⟨_, rfl⟩
          refine wp_region_turn [(.pure, 0), (.pure, 1), (.pure, 2), (.read, 3), (.pure, 4), (.make, 5), (.pure, 6), (.make, 7), (.pure, 8), (.pure, 9), (.turn, 10)] (by kernel_rfl) (by kernel_rfl) ?_
          rw [← hW1d]
          have e1 : W1d.cell? ⟨g, c, none⟩ = some (.int .u8 (x : Int)) := by rw [hW1d]; exact c0
          have z1 : W1d.frozen? ⟨g, c, none⟩ = false := by rw [hW1d]; exact z0
          have HWD : Hid (W1d = W1.drew) := hW1d
          clear hW1d
          have hU := up_ne
          have hA := anyW_ne
          have g0 := fun n : Up W1d => n.cell e1
          repeat (first | refine turn_p rfl ?_ | refine turn_q rfl ?_); go_big_quiet_step (fail); refine wpQuiet_nil ?_
          refine turn_n rfl ?_
          go_wp2_with fail
          refine (HPK _).mono ?_
          rintro e w5 ⟨rfl, hw5⟩
          subst w5
          go_wp2_with fail
          refine ⟨rfl, Below.refl _ _, ?_⟩
          repeat (first | refine turn_p rfl ?_ | refine turn_q rfl ?_); go_big_quiet_step (fail); refine wpQuiet_nil ?_
          refine turn_n rfl ?_
          go_wp2_with fail
          refine ⟨rfl, Below.refl _ _, ?_⟩
          repeat (first | refine turn_p rfl ?_ | refine turn_q rfl ?_); go_big_quiet_step (fail); refine wpQuiet_nil ?_
          refine turn_t rfl ?_
          go_wp2_with fail
          refine ⟨rfl, ?_⟩
          refine turn_nil ?_
          rw [show ((1 : Int) + (d : Int)) = ((1 + d : Nat) : Int) by omega, h8]
          obtain ⟨y, hy⟩ : ∃ y, y = (x ^^^ (1 + d)).toUInt8 := ⟨_, rfl⟩
          have hyn : ((x ^^^ (1 + d) : Nat) : Int) = (y.toNat : Int) := by rw [hy, hxd.1]
          rw [hyn]
          have hne : F[c]? ≠ some y := by
            rw [List.getElem?_eq_getElem hcl]
            intro e
            have e2 : y.toNat = x := by rw [HXV.out, Option.some.inj e]
            rw [hy, hxd.1] at e2
            exact hxd.2 e2
          have hTE : Tears st.ls (F.set c y) := by
            refine ⟨by rw [List.length_set]; omega, wholeK c st.ls, whole_le _ _, ?_⟩
            rw [HF.out] at hne hcl ⊢
            rw [frames_len] at hcl
            exact spoilt st.ls 0 c y (by have := HST.out _ rfl; omega) H200.out hcl hne
          have HBP : Hid (BytesP wr g st.ls F.length (W1d.setCell ⟨g, c, none⟩ (.int .u8 (y.toNat : Int)))) := by
            refine ⟨F.set c y, List.length_set, fun j hj => ?_, hTE, ?_⟩
            · rw [List.length_set] at hj
              rw [List.getElem_set]
              by_cases e : c = j
              · subst e
                rw [if_pos rfl]
                exact World.cell?_setCell_same _ _ _ e1
              · rw [if_neg e, World.cell?_setCell_other _ _ _ _ (fun h => e (congrArg Addr.off h)), HWD.out]
                exact HCE.out j hj
            · have h1 : Below wr.heap.size wr W1d := by rw [HWD.out]; exact HB1.out.trans ((below_drew _).mono HB1.out.size)
              exact h1.setCell (p := ⟨g, c, none⟩) (by show wr.heap.size ≤ g; rw [HG.out]; exact Nat.le_refl _) _
          clear h8 hxd hyn hy hne hTE c0 z0 e1 z1 g0 hU hA HPK HWD HXV
          go_wp2
          go_meet
          case rel => exact HBP.out
        · have hcl' : ¬ (c : Int) < (F.length : Int) := by omega
          have HBP : Hid (BytesP wr g st.ls F.length W1) := by
            refine ⟨F, rfl, HCE.out, ⟨by omega, st.ls.length, Nat.le_refl _, ?_⟩, HB1.out⟩
            rw [List.take_length, HF.out]
            exact read_frames st.ls 0 (by have := HST.out _ rfl; omega) H200.out
          go_wp2
          go_meet
          case rel => exact HBP.out
      case rest =>
        obtain ⟨F', hFl', hce', hte', hbw⟩ := hcut
        have hcl2 : ∀ j (hj : j < F'.length), wc.cell? ((⟨g, 0, none⟩ : Addr).add j) = some (.int .u8 (F'[j].toNat : Int)) := fun j hj => by
          rw [Addr.add_lit, Nat.zero_add]; exact hce' j hj
        have HBK : Hid (∀ W, (∀ j, W.cell? ⟨g, j, none⟩ = wc.cell? ⟨g, j, none⟩) → (convert 66 9 (.slice (some ⟨g, 0, none⟩) F.length gc)).run Tryz.prog W = .ok (.string (ba F')) W) := fun W hW => by
          have := run_convert_bytes_back (P := Tryz.prog) W 66 9 5 ⟨g, 0, none⟩ gc F' Tryz.underlying66 Tryz.underlying5 Tryz.underlying9 (fun j hj => by rw [Addr.add_lit, Nat.zero_add, hW, hce' j hj])
          rw [hFl'] at this
          exact this
        have HX : Hid ((ba F).extract 0 c = ba (F.take c)) := by
          show _ = _
          rw [← ba_of (ByteArray.extract _ _ _), ext_data, ba_data, List.drop_zero]
        have HTE0 : Hid (Tears st.ls (F.take c)) := by
          refine ⟨by rw [List.length_take]; omega, wholeK c st.ls, whole_le _ _, ?_⟩
          rw [HF.out]
          exact torn st.ls 0 c (by have := HST.out _ rfl; omega) H200.out (by rw [← HFL.out]; omega)
        have HTE1 := hidE hte'
        have HBW := hidE hbw
        have hw := hbw.size
        clear hcl2 hce' hte' hbw hFl'
        go_upto_region 18 with fail
        go_cut [82, 83, 84] (fun s82 s83 s84 wx => TextsP wc (F.take c) F' s82 s83 s84 wx)
        case first =>
          go_wp2_with fail
          refine wp_region_preG (fun _ _ => True) [(false, 0), (false, 1), (false, 3), (false, 7)] [] 4 (fun _ => trivial) (fun _ _ _ _ _ => trivial) (by kernel_rfl) (by kernel_rfl) ?_
          have hA := anyW_ne
          obtain ⟨W5, hW5⟩ : ∃ W, W = wc.drew := ⟨_, rfl⟩
          rw [← hW5]
          have hb5 : Below wc.heap.size wc W5 := by rw [hW5]; exact below_drew _
          have hback := HBK.out W5 (fun j => by rw [hW5]; rfl)
          have HTP : Hid (TextsP wc (F.take c) F' (.slice (some ⟨W5.heap.size, 0, none⟩) 2 2) (.int .i64 2) (.int .i64 0) (W5.alloc (.cells #[.string (ba (F.take c)), .string (ba F')] 9))) :=
            ⟨W5.heap.size, 2, rfl, rfl, rfl, by simp, by simp, by simp, hb5.alloc hb5.size _⟩
          clear hW5
          repeat (refine preG_p rfl ?_; go_big_quiet_step (fail); refine wpQuiet_nil ?_)
          refine preG_nil ?_
          refine anyG_all [2, 4] (by kernel_rfl) ?_
          intro i hi2
          have hi3 : i = 2 ∨ i = 4 := by simpa using hi2
          clear hi2
          rcases hi3 with rfl | rfl
          · refine eOpG_keep rfl ?_
            go_wp2_with fail
            refine ⟨rfl, trivial, ?_⟩
            refine anyG_all [4] (by kernel_rfl) ?_
            intro i hi2
            obtain rfl : i = 4 := by simpa using hi2
            clear hi2
            refine eOpG_keep rfl ?_
            go_wp2_with fail
            refine ⟨rfl, trivial, ?_⟩
            refine anyG_all [5] (by kernel_rfl) ?_
            intro i hi2
            obtain rfl : i = 5 := by simpa using hi2
            clear hi2
            refine eOpG_keep rfl ?_
            go_wp2_with fail
            refine ⟨rfl, trivial, ?_⟩
            refine anyG_all [6] (by kernel_rfl) ?_
            intro i hi2
            obtain rfl : i = 6 := by simpa using hi2
            clear hi2
            refine eOpG_keep rfl ?_
            go_wp2_with fail
            refine ⟨rfl, trivial, ?_⟩
            refine anyG_nil (by kernel_rfl) ?_
            go_wp2
            go_meet
            case rel =>
              rw [HX.out]
              exact HTP.out
          · refine eOpG_keep rfl ?_
            go_wp2_with fail
            refine ⟨rfl, trivial, ?_⟩
            refine anyG_all [2] (by kernel_rfl) ?_
            intro i hi2
            obtain rfl : i = 2 := by simpa using hi2
            clear hi2
            refine eOpG_keep rfl ?_
            go_wp2_with fail
            refine ⟨rfl, trivial, ?_⟩
            refine anyG_all [5] (by kernel_rfl) ?_
            intro i hi2
            obtain rfl : i = 5 := by simpa using hi2
            clear hi2
            refine eOpG_keep rfl ?_
            go_wp2_with fail
            refine ⟨rfl, trivial, ?_⟩
            refine anyG_all [6] (by kernel_rfl) ?_
            intro i hi2
            obtain rfl : i = 6 := by simpa using hi2
            clear hi2
            refine eOpG_keep rfl ?_
            go_wp2_with fail
            refine ⟨rfl, trivial, ?_⟩
            refine anyG_nil (by kernel_rfl) ?_
            go_wp2
            go_meet
            case rel =>
              rw [HX.out]
              exact HTP.out
        case rest =>
          obtain ⟨rb, rcp, rfl, rfl, rfl, hrb, hr0, hr1, hbx⟩ := hcut
          have HB6 : Hid (Below wr.heap.size wr wc) := HBW.out.trans (hbx.mono hw)
          have hle6 := hbx.size
          have HR0 := hidE hr0
          have HR1 := hidE hr1
          clear hbx hr0 hr1 HBK HX
          have HBA : Hid (Below w2.heap.size w2 wc) := HBL.out.trans (HB6.out.mono HBL.out.size)
          have HDS6 : Hid (StrsC wc dao st.ls) := HDS.out.below HB6.out
          have HGO : Hid (GoodL st.ls) := HMA.out.good
          clear HDS HBL HMA HB6 HBW HB1 HCE HFZ
          go_wp2_with fail
          obtain ⟨wq, hwq⟩ : ∃ W, W = wc := ⟨_, rfl⟩
          rw [← hwq] at HR0 HR1 HBA HDS6 hrb
          have hW0 : Below wq.heap.size wq wc := by rw [hwq]; exact Below.refl _ _
          clear hwq
          go_loopw [84] (fun i wr => ∃ j : Nat, j ≤ 2 ∧ i = .int .i64 j ∧ Hid (Below wq.heap.size wq wr)) (fun i _ => 2 - (intOf i).toNat)
          case atStart => exact ⟨0, Nat.zero_le _, rfl, hW0⟩
          case round =>
            obtain ⟨j, hj, rfl, HBQ⟩ := hrel
            by_cases hjl : j < 2
            · obtain ⟨t, hct, hte⟩ : ∃ t, wr.cell? ⟨rb, j, none⟩ = some (.string (ba t)) ∧ Tears st.ls t := by
                rcases (by omega : j = 0 ∨ j = 1) with rfl | rfl
                · exact ⟨_, (HBQ.out.cell (p := ⟨rb, 0, none⟩) hrb).trans HR0.out, HTE0.out⟩
                · exact ⟨_, (HBQ.out.cell (p := ⟨rb, 1, none⟩) hrb).trans HR1.out, HTE1.out⟩
              obtain ⟨htl, K, hK, hrd⟩ := hte
              have hjl' : (j : Int) < 2 := by omega
              have HBA2 : Hid (Below w2.heap.size w2 wr) := HBA.out.trans (HBQ.out.mono HBA.out.size)
              have hre := restore_any (ba t) (st.ls.take K) wr (hG2.out.below HBA2.out) (by rw [ba_size]; exact htl) (by rw [ba_data]; exact hrd)
              clear hrd htl
              go_wp2_with fail
              refine hre.mono ?_
              rintro x w7 ⟨⟨hgt, pg, sg, cg, rfl, hA7⟩ | ⟨hng, _⟩, hb7⟩
              rotate_left
              · exact absurd (HGO.out.take K) hng
              have hKl : (st.ls.take K).length = K := by rw [List.length_take]; omega
              rw [hKl]
              have hnn : decide ((st.ls.length : Int) < (K : Int)) = false := decide_eq_false (by omega)
              have hnn2 : decide (st.ls.length < K) = false := decide_eq_false (by omega)
              have HKL := hidE hKl
              have HA7 := hidE hA7
              have HB7 := hidE hb7
              have HGT := hidE hgt
              clear hre hct hKl hA7 hb7 hgt
              have HB8 : Hid (Below wq.heap.size wq w7) := HBQ.out.trans (HB7.out.mono HBQ.out.size)
              have HB9 : Hid (Below w2.heap.size w2 w7) := HBA2.out.trans (HB7.out.mono HBA2.out.size)
              have HA7' : Hid (∃ B, HsAt w7 B pg sg cg (runH (st.ls.take K))) := ⟨_, HA7.out⟩
              have HDS7 : Hid (StrsC w7 dao st.ls) := HDS6.out.below HB8.out
              have HN7 := hidE (first_new w7 st.ls)
              obtain ⟨W8, hW8⟩ : ∃ W, W = w7.alloc (.cells #[.slice none 0 0, .int .i64 0, .int .i64 0, .slice none 0 0, .string ⟨#[]⟩, .int .i64 0] 31) := ⟨_, rfl⟩
              rw [← hW8] at HN7
              have HW8 : Hid (W8 = _) := hW8
              clear hW8 HB7 HA7 HBA2 HBQ
              go_wp2_with fail
              rw [← HW8.out]
              obtain ⟨px, hpx⟩ : ∃ p, p = w7.heap.size := ⟨_, rfl⟩
              rw [← hpx]
              have HN8 : Hid (FirstI w7 px st.ls 0 W8) := by rw [hpx]; exact HN7.out
              clear hpx HN7 HW8
              go_loopw [20] (fun i wr => ∃ q : Nat, q ≤ K ∧ i = .int .i64 q ∧ Hid (FirstI w7 px st.ls q wr)) (fun i _ => K - (intOf i).toNat)
              case atStart => exact ⟨0, Nat.zero_le _, rfl, HN8⟩
              case round =>
                obtain ⟨q, hq, rfl, HS⟩ := hrel
                obtain ⟨sx, cx, hAx, hbx⟩ := HS.out
                have hrl : (runH (st.ls.take q)).ls.length = q := by
                  rw [run_ls _ _ rfl (HGO.out.take q), List.length_take]; omega
                have hokq := ok_run _ (st.ls.take q) rfl (by rw [List.length_take]; omega) (HGO.out.take q)
                by_cases hql : q < K
                · obtain ⟨b, o, e1, lt1, c1'⟩ := HDS7.out (by omega)
                  subst e1
                  have hqs : q < st.ls.length := by omega
                  have d1 : wr.cell? ⟨b, o + q, none⟩ = some (encS st.ls[q]) := (hbx.cell (p := ⟨b, o + q, none⟩) lt1).trans (c1' q hqs)
                  have ht2 := H200.out _ (List.getElem_mem hqs)
                  have hgr : Ground w7.heap.size wr := ⟨w7, hG2.out.below HB9.out, Nat.le_refl _, hbx⟩
                  have hdo := do_any hAx hokq (by omega) hgr st.ls[q] (by omega)
                  have hc := HGO.out q hqs
                  have HTK : Hid (runH (st.ls.take (q + 1)) = (doH (runH (st.ls.take q)) st.ls[q]).h) := by
                    show _ = _
                    rw [List.take_succ_eq_append_getElem hqs, run_snoc]
                  obtain ⟨tq, htq⟩ : ∃ t, t = st.ls[q] := ⟨_, rfl⟩
                  rw [← htq] at d1 hdo ht2 hc HTK
                  unfold encS at d1
                  have HAX := hidE hAx
                  have HBX := hidE hbx
                  have HCC := hidE hc
                  clear c1' htq HS hgr hAx hbx hokq hrl hc
                  go_wp2_with fail
                  refine hdo.mono ?_
                  rintro x w9 ⟨sv', cv', rfl, hA9, hT9⟩
                  have HS9 : Hid (FirstI w7 px st.ls (q + 1) w9) := by
                    refine ⟨sv', cv', ?_, hT9.below HAX.out HBX.out HBX.out.size⟩
                    rw [HTK.out]; exact hA9
                  rw [HCC.out, show errV 0 = Value.nilIface from rfl]
                  clear hdo hA9 hT9 d1 HAX HBX HCC HTK
                  go_wp2
                  go_roundw
                  case rel => exact ⟨q + 1, by omega, by go_num, HS9⟩
                  case measure => simp [intOf]; omega
                · obtain rfl : q = K := by omega
                  obtain ⟨B7, hA7⟩ := HA7'.out
                  have hal := alike_any (hA7.below hbx) hAx hokq (by omega) (hG2.out.below (HB9.out.trans (hbx.mono HB9.out.size))).ev.len
                  have HBX := hidE hbx
                  clear HS hAx hbx hokq hrl hA7
                  go_wp2_with fail
                  refine hal.mono ?_
                  rintro x w9 ⟨rfl, hb9⟩
                  have HBF : Hid (Below wq.heap.size wq w9) := HB8.out.trans ((HBX.out.trans (hb9.mono HBX.out.size)).mono HB8.out.size)
                  clear hal hb9 HBX
                  go_wp2
                  go_roundw
                  case rel => exact ⟨j + 1, by omega, by go_num, HBF⟩
                  case measure => simp [intOf]; omega
            · obtain rfl : j = 2 := by omega
              have HFB : Hid (Below w.heap.size w wr) := HB2.out.trans ((HBA.out.trans (HBQ.out.mono HBA.out.size)).mono HB2.out.size)
              go_wp2
              go_ret
              exact ⟨rfl, HFB.out⟩
end Go.Proofs.YtdkhohlhdiekmaaGreatDoor
