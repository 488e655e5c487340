/- The walk of tallymanref.Read. -/
import Derived.Test.YtfppcecjpaefdaaDoorJrRefR
import Derived.WalkSmall
namespace Go.Proofs.YtfppcecjpaefdaaDoor
open Go.RowKit
theorem by_drop (s : ByteArray) (c i : Nat) (h : c + i < s.size) : (s[c + i].toNat : Int) = (((s.data.toList.drop c).getD i 0).toNat : Int) := by
  rw [List.getD_eq_getElem?_getD, List.getElem?_drop, List.getElem?_eq_getElem (by rw [size_data]; exact h)]
  rfl
set_option maxRecDepth 20000 in
set_option maxHeartbeats 8000000 in
theorem rread_any (s : ByteArray) (w : World) (hs : s.size ≤ 100000) :
    Calls Tryd.prog 9 #[.string s] w (ReadP s.data.toList w) := by
  obtain ⟨i0, hi, hz0, hz1, hz2⟩ := info_parts Tryd.infoStrJ
  have mixed : Tryd.prog.follows .mixedOrders = true := by kernel_rfl
  obtain ⟨L, hL⟩ : ∃ L, L = s.data.toList := ⟨_, rfl⟩
  have hLs : L.length = s.size := by rw [hL, size_data]
  have HLs : Hid (L = s.data.toList) := hL
  rw [← hL]
  clear hL
  go_enter Tryd.func9, Tryd.ntmps9
  go_wp2
  go_loopw [4, 5] (fun u c wr => ∃ ds : List (List UInt8), Hid (Sofar L ds) ∧ c = .int .i64 (totL ds : Nat) ∧ Hid (wr.ownsRow w.heap.size 9 1 u ds.length (ds.map encS)) ∧ Below w.heap.size w wr) (fun _ c _ => s.size - (intOf c).toNat)
  case atStart => exact ⟨[], Sofar.nil _, rfl, World.ownsRow_nil _ _ _ _, Below.refl _ _⟩
  case round =>
    obtain ⟨ds, HS, rfl, HO, hb⟩ := hrel
    have ht := HS.out.1
    rw [hLs] at ht
    have hg := tot_ge ds
    obtain ⟨c, hc⟩ : ∃ c, c = totL ds := ⟨_, rfl⟩
    rw [← hc] at ht hg
    obtain ⟨r, hr⟩ : ∃ r, r = L.drop c := ⟨_, rfl⟩
    have hrl : r.length = s.size - c := by rw [hr, List.length_drop, hLs]
    have HR : Hid (L.drop (totL ds) = r) := by show _ = _; rw [hr, hc]
    have HRC : Hid (s.data.toList.drop c = r) := by show _ = _; rw [hr, HLs.out]
    have HT : Hid (totL ds = c) := hc.symm
    rw [← hc]
    clear hc hr
    obtain ⟨nd, hnd⟩ : ∃ n, n = ds.length := ⟨_, rfl⟩
    have HN : Hid (ds.length = nd) := hnd.symm
    rw [← hnd] at hg HO
    clear hnd
    obtain ⟨ad, cap, hv⟩ : ∃ ad cap, u4 = .slice ad nd cap := by
      rcases own_form HO.out with ⟨hv, hn, _⟩ | ⟨g, cap, hv, _⟩
      · exact ⟨none, 0, by rw [hv, hn]⟩
      · exact ⟨_, _, hv⟩
    subst hv
    by_cases h1 : r.length < 16
    · have HD : Hid (Rd 0 L ds) := by
        refine HS.out.done ?_
        rw [HR.out]
        exact not_heads_short h1
      go_wp2
      go_ret2
      refine ⟨.slice ad nd cap, ds, ?_, HD.out, HS.out.1, ?_, hb⟩
      · rw [HT.out]; rfl
      · rw [HN.out]; exact HO.out
    · have b0 := by_drop s c 0 (by omega)
      have b1 := by_drop s c 1 (by omega)
      have b2 := by_drop s c 2 (by omega)
      have b3 := by_drop s c 3 (by omega)
      rw [HRC.out] at b0 b1 b2 b3
      have b0 : (s[c].toNat : Int) = ((r.getD 0 0).toNat : Int) := b0
      have t0 := byte_lt (r.getD 0 0)
      have t1 := byte_lt (r.getD 1 0)
      have t2 := byte_lt (r.getD 2 0)
      have t3 := byte_lt (r.getD 3 0)
      have HNum : Hid (numL r = (r.getD 0 0).toNat + 256 * (r.getD 1 0).toNat + 65536 * (r.getD 2 0).toNat + 16777216 * (r.getD 3 0).toNat) := rfl
      obtain ⟨x0, e0⟩ : ∃ x, x = (r.getD 0 0).toNat := ⟨_, rfl⟩
      obtain ⟨x1, e1⟩ : ∃ x, x = (r.getD 1 0).toNat := ⟨_, rfl⟩
      obtain ⟨x2, e2⟩ : ∃ x, x = (r.getD 2 0).toNat := ⟨_, rfl⟩
      obtain ⟨x3, e3⟩ : ∃ x, x = (r.getD 3 0).toNat := ⟨_, rfl⟩
      rw [← e0] at b0 t0 HNum
      rw [← e1] at b1 t1 HNum
      rw [← e2] at b2 t2 HNum
      rw [← e3] at b3 t3 HNum
      clear e0 e1 e2 e3
      have i0' : 0 ≤ (c : Int) ∧ (c : Int) < (s.size : Int) := by omega
      have i1' : 0 ≤ (c : Int) + 1 ∧ (c : Int) + 1 < (s.size : Int) := by omega
      have i2' : 0 ≤ (c : Int) + 2 ∧ (c : Int) + 2 < (s.size : Int) := by omega
      have i3' : 0 ≤ (c : Int) + 3 ∧ (c : Int) + 3 < (s.size : Int) := by omega
      have q1 : ((c : Int) + 1).toNat = c + 1 := by omega
      have q2 : ((c : Int) + 2).toNat = c + 2 := by omega
      have q3 : ((c : Int) + 3).toNat = c + 3 := by omega
      go_wp2_with fail
      go_quiet (fail)
      have hbq : Below wr.heap.size wr (wr.drewN nq) := below_drewN (Below.refl _ _) nq
      obtain ⟨W, hW⟩ : ∃ W, W = wr.drewN nq := ⟨_, rfl⟩
      rw [← hW] at hbq ⊢
      have hbW : Below w.heap.size w W := hb.trans (hbq.mono hb.size)
      have HOW : Hid (W.ownsRow w.heap.size 9 1 (.slice ad nd cap) nd (ds.map encS)) := own_below HO.out hbq (Nat.le_refl _)
      rw [show ((x0 : Int) + 256 * (x1 : Int) + 65536 * (x2 : Int) + 16777216 * (x3 : Int)) = ((numL r : Nat) : Int) by rw [HNum.out]; omega]
      have HH : Hid (∀ t, Heads nd t r → t.length = numL r ∧ t = (r.drop 12).take (numL r)) := fun t k => ⟨k.num.symm, k.line⟩
      obtain ⟨kk, hkk⟩ : ∃ kk, kk = numL r := ⟨_, rfl⟩
      rw [← hkk] at HH ⊢
      have hkl : kk < 4294967296 := by rw [hkk]; exact num_lt r
      clear hW hkk HNum b0 b1 b2 b3 i0' i1' i2' i3' q1 q2 q3 t0 t1 t2 t3 hb HO hbq
      by_cases h2 : 200 < kk
      · have HD : Hid (Rd 0 L ds) := by
          refine HS.out.done fun t k => ?_
          rw [HR.out, HN.out] at k
          have := (HH.out t k).1
          have := k.1
          omega
        go_wp2
        go_ret2
        refine ⟨.slice ad nd cap, ds, ?_, HD.out, HS.out.1, ?_, hbW⟩
        · rw [HT.out]; rfl
        · rw [HN.out]; exact HOW.out
      · by_cases h3 : r.length < 16 + kk
        · have HD : Hid (Rd 0 L ds) := by
            refine HS.out.done fun t k => ?_
            rw [HR.out, HN.out] at k
            have := (HH.out t k).1
            have := k.len
            omega
          go_wp2
          go_ret2
          refine ⟨.slice ad nd cap, ds, ?_, HD.out, HS.out.1, ?_, hbW⟩
          · rw [HT.out]; rfl
          · rw [HN.out]; exact HOW.out
        · obtain ⟨T, hT⟩ : ∃ T, T = (r.drop 12).take kk := ⟨_, rfl⟩
          have hTl : T.length = kk := by rw [hT, List.length_take, List.length_drop]; omega
          have HX1 : Hid (s.extract (c + 12) (c + 12 + kk) = ba T) := by
            show _ = _
            rw [← ba_of (s.extract _ _), ext_data, hT, ← HRC.out, List.drop_drop, List.drop_take, show c + 12 + kk - (c + 12) = kk by omega]
          have HX2 : Hid (s.extract c (c + 16 + kk) = ba (r.take (16 + kk))) := by
            show _ = _
            rw [← ba_of (s.extract _ _), ext_data, ← HRC.out, List.drop_take, show c + 16 + kk - c = 16 + kk by omega]
          have HHT : Hid (∀ t, Heads nd t r → t = T) := fun t k => by rw [hT]; exact (HH.out t k).2
          have hTz : (ba T).size = kk := by rw [ba_size, hTl]
          have HF := fun w => rframe_ok nd (ba T) w (by omega) (by omega)
          rw [ba_data] at HF
          have e1 : ((c : Int) + 12).toNat = c + 12 := by omega
          have e2 : ((c : Int) + 12 + (kk : Int)).toNat = c + 12 + kk := by omega
          have e3 : ((c : Int) + 16 + (kk : Int)).toNat = c + 16 + kk := by omega
          have x1e := HX1.out
          clear hT HH
          go_wp2_with fail
          clear x1e
          refine (HF _).mono ?_
          rintro e w2 ⟨rfl, hb2⟩
          have hBw : Below w.heap.size w w2 := hbW.trans (hb2.mono hbW.size)
          have HO2 : Hid (w2.ownsRow w.heap.size 9 1 (.slice ad nd cap) nd (ds.map encS)) := own_below HOW.out hb2 (Nat.le_refl _)
          clear HOW hb2 hbW HF
          have x2e := HX2.out
          by_cases h4 : frameL nd T <+: r
          · have hk : Heads nd T r := ⟨by omega, by omega, h4⟩
            have hcmp : ((ba (r.take (16 + kk))).toList == (ba (frameL nd T)).toList) = true := by
              rw [eqlB_iff]; apply decide_eq_true
              rw [ba_data, ba_data]
              have := List.prefix_iff_eq_take.1 h4
              rw [frame_len, hTl] at this
              exact this.symm
            have HS2 : Hid (Sofar L (ds ++ [T])) := HS.out.step (by rw [HR.out, HN.out]; exact hk)
            have HT2 : Hid (totL (ds ++ [T]) = c + (16 + kk)) := by show _ = _; rw [tot_snoc, HT.out, hTl]
            clear h4 hk
            go_wp2_with (first
              | (at_builtin; refine wpList_append_own _ rfl _ _ 32 rfl w.heap.size 9 i0 (.string ⟨#[]⟩) 1 16 Tryd.underlying32 hi hz0 hz1 hz2 rfl (by decide) _ _ _ rfl (HO2.out.alloc _) ⟨w2.heap.size, 0, none⟩ 1 1 [encS T] rfl rfl ?d1 ?d2 ?d3 ?d4 ?d5 ?_)
              | go_in)
            case d1 => exact cells_of_list rfl
            case d2 => intro u hu; simp only [List.mem_singleton] at hu; subst hu; rfl
            case d3 => unfold maxLen; omega
            case d4 => omega
            case d5 => have := hBw.size; simp; omega
            · intro v' w5 hown5 hgr _
              go_wp2
              go_roundw
              case rel =>
                refine ⟨ds ++ [T], HS2, ?_, ?_, ?_⟩
                · rw [HT2.out]; go_num
                · show World.ownsRow _ _ _ _ _ _ _
                  rw [List.length_append, HN.out, List.map_append]
                  exact hown5
                · exact (hBw.alloc (by have := hBw.size; omega) _).grown hgr (by have := hBw.size; simp; omega) (fun j hj => (HO2.out.lt j hj).1)
              case measure => simp [intOf]; omega
          · have HD : Hid (Rd 0 L ds) := by
              refine HS.out.done fun t k => ?_
              rw [HR.out, HN.out] at k
              have e := HHT.out t k
              have := k.2.2
              rw [e] at this
              exact h4 this
            have hcmp : ((ba (r.take (16 + kk))).toList == (ba (frameL nd T)).toList) = false := by
              rw [eqlB_iff]; apply decide_eq_false
              rw [ba_data, ba_data]
              intro e
              exact h4 (by rw [← e]; exact List.take_prefix _ _)
            clear h4
            go_wp2
            go_ret2
            refine ⟨.slice ad nd cap, ds, ?_, HD.out, HS.out.1, ?_, hBw⟩
            · rw [HT.out]; rfl
            · rw [HN.out]; exact HO2.out
end Go.Proofs.YtfppcecjpaefdaaDoor
