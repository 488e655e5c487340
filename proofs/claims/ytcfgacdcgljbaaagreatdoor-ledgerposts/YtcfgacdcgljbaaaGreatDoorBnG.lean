/- append onto a slice that owns its row: its row is the old one, or new. The walk of ledger.Post. Rows that slices own, cell by cell. Postings that lie in a slice. -/
import Derived.Test.YtcfgacdcgljbaaaGreatDoorBnA
namespace Go.Proofs.YtcfgacdcgljbaaaGreatDoor
open Go.RowKit
/-- A slice's row is the old one, or new. -/
def Fresh (w : World) (sv sv' : Value) : Prop := ∀ k, sv'.ownBlock = some k → sv.ownBlock = some k ∨ w.heap.size ≤ k
theorem Fresh.refl (w : World) (sv : Value) : Fresh w sv sv := fun _ h => Or.inl h
theorem Fresh.trans {w w' : World} {a b c : Value} (h : Fresh w a b) (h' : Fresh w' b c) (hs : w.heap.size ≤ w'.heap.size) : Fresh w a c := fun k hk => by
  rcases h' k hk with h1 | h1
  · exact h k h1
  · exact Or.inr (Nat.le_trans hs h1)
theorem Fresh.grow {w w' : World} {a b : Value} (h : Fresh w' a b) (hs : w.heap.size ≤ w'.heap.size) : Fresh w a b := fun k hk => by
  rcases h k hk with h1 | h1
  · exact Or.inl h1
  · exact Or.inr (Nat.le_trans hs h1)
section
variable {P : Program} (w : World)
theorem append_fresh (base : Nat) (t ty e : TypeId) (i : TypeInfo) (z : Value) (size bytes : Nat) (ht : P.underlying t = some (.slice e)) (hi : P.info? e = some i) (hz : i.zero = some z)
    (hsize : i.size = size) (hby : i.bytes = bytes) (v : Value) (n : Nat) (xs : List Value) (hown : w.ownsRow base e size v n xs)
    (a : Addr) (m c : Nat) (news : List Value) (hl : news.length = m * size) (hnews : ∀ j u, news[j]? = some u → w.cell? (a.add j) = some u) (h1 : ∀ u ∈ news, u.oneCell' = true)
    (h63 : n + m ≤ maxLen) (hbytes : (n + m) * bytes ≤ 140737488355328) (hm : 0 < m) {v' : Value} {w' : World} (hr : (Builtin.append_ #[t, t] ty #[v, .slice (some a) m c]).run P w = .ok v' w') : Fresh w v v' := by
  subst hsize
  subst hby
  have hsmall : n + m ≤ 9223372036854775807 := by simp only [maxLen] at h63; omega
  rcases hown.2 with ⟨rfl, rfl⟩ | ⟨g, cap, cur, rfl, hbg, hg, hnc, hcm, hcs, htake⟩
  · have hr2 := run_append_nil (P := P) w t ty e i z ht hi hz a m c news hl hnews (by omega) (by omega) (by have hb := hbytes; simp only [Nat.zero_add] at hb; omega)
    rw [hr2] at hr
    cases hr
    intro k hk
    simp [Value.ownBlock] at hk
    exact Or.inr (by omega)
  · by_cases hroom : n + m ≤ cap
    · have hfit : n * i.size + news.length ≤ cur.size := by rw [hl, hcs, ← Nat.add_mul]; exact Nat.mul_le_mul_right _ hroom
      have hr2 := run_append_room (P := P) w t ty e i ht hi g n cap cur hg a m c news hl hnews h1 hroom hfit
      rw [hr2] at hr
      cases hr
      exact fun k hk => Or.inl (by simpa [Value.ownBlock] using hk)
    · have holds : ∀ j u, xs[j]? = some u → w.cell? ((⟨g, 0, none⟩ : Addr).add j) = some u := hown.cells (g := g) rfl
      have hr2 := run_append_grow (P := P) w t ty e i z ht hi hz ⟨g, 0, none⟩ n cap xs hown.1 holds a m c news hl hnews (by omega) (by omega) (growslice_fits (by omega) hbytes)
      rw [hr2] at hr
      cases hr
      intro k hk
      simp [Value.ownBlock] at hk
      exact Or.inr (by omega)
theorem wpList_append_new {ops : Array Oper} {rest : List Oper} {o : Oper} {a : Act} {Q : Exit → Act → World → Prop} (hgd : o.guard = none) (s x : Operand) (t : TypeId)
    (ho : o.op = .call { callee := .builtin .append, args := #[s, x], argTypes := #[t, t] })
    (base : Nat) (e : TypeId) (i : TypeInfo) (z : Value) (size bytes : Nat) (ht : P.underlying t = some (.slice e)) (hi : P.info? e = some i) (hz : i.zero = some z)
    (hsize : i.size = size) (hby : i.bytes = bytes) (hzs : z.cells.size = size) (hsz : 0 < size)
    (v : Value) (n : Nat) (xs : List Value) (hs : a.eval s = v) (hown : w.ownsRow base e size v n xs)
    (ad : Addr) (m c : Nat) (news : List Value) (hx : a.eval x = .slice (some ad) m c) (hl : news.length = m * size) (hnews : ∀ j u, news[j]? = some u → w.cell? (ad.add j) = some u) (h1 : ∀ u ∈ news, u.oneCell' = true)
    (h63 : n + m ≤ maxLen) (hbytes : (n + m) * bytes ≤ 140737488355328) (hbase : base ≤ w.heap.size) (hm : 0 < m)
    (h : ∀ v' w', w'.ownsRow base e size v' (n + m) (xs ++ news) → w.grownBy w' v.ownBlock → Fresh w v v' → wpList P ops Q rest (a.put o.dst v') w') : wpList P ops Q (o :: rest) a w :=
  wpList_plain hgd fun _ hK => by
    obtain ⟨v', w', hr, h2, h3, h4⟩ := run_append_own (P := P) w base t o.type e i z size bytes ht hi hz hsize hby hzs hsz v n xs hown ad m c news hl hnews h1 h63 hbytes hbase
    have hf := append_fresh w base t o.type e i z size bytes ht hi hz hsize hby v n xs hown ad m c news hl hnews h1 h63 hbytes hm hr
    unfold Oper.wp execOp
    simp only [ho, resolve, invoke, builtin, Sem.run_bind, Sem.run_pure, Result.andThen_ok, List.map_toArray, List.map_cons, List.map_nil, hs, hx, hr]
    exact hK _ _ (h v' w' h2 h3 hf)
end
end Go.Proofs.YtcfgacdcgljbaaaGreatDoor
namespace Go.Proofs.YtcfgacdcgljbaaaGreatDoor
open Go.RowKit
def pstZ : Value := .agg #[.string ⟨#[]⟩, .string ⟨#[]⟩, .int .i64 0]
theorem Tryz.infoPst : (Tryz.prog.info? 75).map (fun i => (i.zero, i.size, i.bytes)) = some (some pstZ, 3, 40) := by kernel_rfl
def fivesV (f : Fig) : Value := .agg #[.string aStock, .string aSupply, .int .i64 f.inn, .string aSold, .string aStock, .int .i64 f.out, .string aLoss, .string aStock, .int .i64 f.loss, .string aStock, .string aGain, .int .i64 f.gain, .string aLate, .string aSupply, .int .i64 f.late]
theorem ixp0 (a0 a1 a2 a3 a4 a5 a6 a7 a8 a9 a10 a11 a12 a13 a14 : Value) (w : World) : (Instr.index 160 (.agg #[a0, a1, a2, a3, a4, a5, a6, a7, a8, a9, a10, a11, a12, a13, a14]) (.int .i64 0)).run Tryz.prog w = .ok (.agg #[a0, a1, a2]) w := by kernel_rfl
theorem ixp1 (a0 a1 a2 a3 a4 a5 a6 a7 a8 a9 a10 a11 a12 a13 a14 : Value) (w : World) : (Instr.index 160 (.agg #[a0, a1, a2, a3, a4, a5, a6, a7, a8, a9, a10, a11, a12, a13, a14]) (.int .i64 1)).run Tryz.prog w = .ok (.agg #[a3, a4, a5]) w := by kernel_rfl
theorem ixp2 (a0 a1 a2 a3 a4 a5 a6 a7 a8 a9 a10 a11 a12 a13 a14 : Value) (w : World) : (Instr.index 160 (.agg #[a0, a1, a2, a3, a4, a5, a6, a7, a8, a9, a10, a11, a12, a13, a14]) (.int .i64 2)).run Tryz.prog w = .ok (.agg #[a6, a7, a8]) w := by kernel_rfl
theorem ixp3 (a0 a1 a2 a3 a4 a5 a6 a7 a8 a9 a10 a11 a12 a13 a14 : Value) (w : World) : (Instr.index 160 (.agg #[a0, a1, a2, a3, a4, a5, a6, a7, a8, a9, a10, a11, a12, a13, a14]) (.int .i64 3)).run Tryz.prog w = .ok (.agg #[a9, a10, a11]) w := by kernel_rfl
theorem ixp4 (a0 a1 a2 a3 a4 a5 a6 a7 a8 a9 a10 a11 a12 a13 a14 : Value) (w : World) : (Instr.index 160 (.agg #[a0, a1, a2, a3, a4, a5, a6, a7, a8, a9, a10, a11, a12, a13, a14]) (.int .i64 4)).run Tryz.prog w = .ok (.agg #[a12, a13, a14]) w := by kernel_rfl
theorem index_fives (f : Fig) (k : Nat) (hk : k < (fives f).length) (w : World) : (Instr.index 160 (fivesV f) (.int .i64 k)).run Tryz.prog w = .ok (pstV (fives f)[k]) w := by
  have h5 : k < 5 := hk
  obtain rfl | rfl | rfl | rfl | rfl : k = 0 ∨ k = 1 ∨ k = 2 ∨ k = 3 ∨ k = 4 := by omega
  · exact ixp0 _ _ _ _ _ _ _ _ _ _ _ _ _ _ _ w
  · exact ixp1 _ _ _ _ _ _ _ _ _ _ _ _ _ _ _ w
  · exact ixp2 _ _ _ _ _ _ _ _ _ _ _ _ _ _ _ w
  · exact ixp3 _ _ _ _ _ _ _ _ _ _ _ _ _ _ _ w
  · exact ixp4 _ _ _ _ _ _ _ _ _ _ _ _ _ _ _ w
theorem take_flat {l : List Pst} {k : Nat} (hk : k < l.length) : (l.take (k + 1)).flatMap post1 = (l.take k).flatMap post1 ++ post1 l[k] := by
  rw [List.take_succ_eq_append_getElem hk, List.flatMap_append]
  simp
theorem pst_new (w : World) (p : Pst) (j : Nat) (u : Value) (h : (pstC p)[j]? = some u) : (w.alloc (.cells #[.string p.deb, .string p.cre, .int .i64 p.amt] 75)).cell? ((⟨w.heap.size, 0, none⟩ : Addr).add j) = some u := by
  have hj : j < 3 := by
    have := (List.getElem?_eq_some_iff.1 h).1
    rwa [pstC_len] at this
  obtain rfl | rfl | rfl : j = 0 ∨ j = 1 ∨ j = 2 := by omega
  all_goals simp [pstC] at h; subst h; simp [Addr.add]
theorem pstC_one (p : Pst) : ∀ u ∈ pstC p, u.oneCell' = true := by
  intro u hu
  simp only [pstC, List.mem_cons, List.not_mem_nil, or_false] at hu
  rcases hu with rfl | rfl | rfl <;> rfl
theorem own_lenL {w : World} {B : Nat} {T : TypeId} {m n : Nat} {v : Value} {xs : List Value} (h : w.ownsRow B T m v n xs) : ∃ ad n' cap, v = .slice ad n' cap := by
  rcases h.2 with ⟨rfl, _⟩ | ⟨g, cap, cur, rfl, _⟩
  · exact ⟨_, _, _, rfl⟩
  · exact ⟨_, _, _, rfl⟩
set_option maxRecDepth 20000 in
set_option maxHeartbeats 4000000 in
theorem post_any (f : Fig) (w : World) : Calls Tryz.prog 23 #[figV f] w fun r w' => ∃ v, r = .returned v ∧ w'.ownsRow w.heap.size 75 3 v (postL f).length ((postL f).flatMap pstC) ∧ Below w.heap.size w w' := by
  obtain ⟨i0, hi, hz0, hz1, hz2⟩ := info_parts Tryz.infoPst
  have hix := index_fives f
  have h5 : (fives f).length = 5 := rfl
  obtain ⟨f1, f2, f3, f4, f5⟩ := f
  unfold figV
  unfold fivesV pstV at hix
  unfold aStock aSupply aSold aLoss aGain aLate at hix
  simp only at hix
  go_enter Tryz.func23, Tryz.ntmps23
  go_wp2_with fail
  obtain ⟨w0, hw0⟩ : ∃ W, W = ((w.alloc (.cells #[.int .i64 f1, .int .i64 f2, .int .i64 f3, .int .i64 f4, .int .i64 f5] 38)).alloc (.cells #[.string ⟨#[115, 116, 111, 99, 107]⟩, .string ⟨#[115, 117, 112, 112, 108, 121]⟩, .int .i64 f1, .string ⟨#[115, 111, 108, 100]⟩, .string ⟨#[115, 116, 111, 99, 107]⟩, .int .i64 f2, .string ⟨#[108, 111, 115, 115]⟩, .string ⟨#[115, 116, 111, 99, 107]⟩, .int .i64 f3, .string ⟨#[115, 116, 111, 99, 107]⟩, .string ⟨#[103, 97, 105, 110]⟩, .int .i64 f4, .string ⟨#[108, 97, 116, 101]⟩, .string ⟨#[115, 117, 112, 112, 108, 121]⟩, .int .i64 f5] 160)) := ⟨_, rfl⟩
  rw [← hw0]
  have hb0 : Below w.heap.size w w0 := by rw [hw0]; exact ((Below.refl _ _).alloc (Nat.le_refl _) _).alloc (by simp) _
  have HB0 : Hid (Below w.heap.size w w0) := hb0
  clear hw0 hb0
  obtain ⟨ff, hff⟩ : ∃ x, x = fives ⟨f1, f2, f3, f4, f5⟩ := ⟨_, rfl⟩
  rw [← hff] at h5 hix
  have HFF : Hid (ff = fives ⟨f1, f2, f3, f4, f5⟩) := hff
  clear hff
  go_loopw [4, 24] (fun v i wr => ∃ k : Nat, k ≤ 5 ∧ i = .int .i64 k ∧ wr.ownsRow w.heap.size 75 3 v ((ff.take k).flatMap post1).length (((ff.take k).flatMap post1).flatMap pstC) ∧ Below w.heap.size w wr) (fun _ i _ => 5 - (intOf i).toNat)
  case atStart => exact ⟨0, by omega, rfl, World.ownsRow_nil _ _ _ _, HB0.out⟩
  case round =>
    obtain ⟨k, hk, rfl, hown, hb⟩ := hrel
    by_cases hlt : k < 5
    · have hkl : k < ff.length := by omega
      have hx := hix k hkl wr
      have htk := take_flat hkl
      have hll : ((ff.take k).flatMap post1).length ≤ 5 := by have := postf_len (ff.take k); rw [List.length_take] at this; omega
      obtain ⟨⟨d, c, n⟩, hp⟩ : ∃ p, p = ff[k] := ⟨_, rfl⟩
      rw [← hp] at hx htk
      simp only at hx
      have HTK : Hid ((ff.take (k + 1)).flatMap post1 = (ff.take k).flatMap post1 ++ post1 ⟨d, c, n⟩) := htk
      obtain ⟨qs, hqs⟩ : ∃ q, q = (ff.take k).flatMap post1 := ⟨_, rfl⟩
      rw [← hqs] at hown hll HTK
      clear htk hp hqs hix
      obtain ⟨ad, nn, cp, hv⟩ := own_lenL hown
      subst hv
      obtain ⟨W1, hW1⟩ : ∃ W, W = wr.alloc (.cells #[.string d, .string c, .int .i64 n] 75) := ⟨_, rfl⟩
      have hb1 : Below wr.heap.size wr W1 := by rw [hW1]; exact (Below.refl _ _).alloc (Nat.le_refl _) _
      have HB1 : Hid (Below wr.heap.size wr W1) := hb1
      have hs1 : W1.heap.size = wr.heap.size + 1 := by rw [hW1]; simp
      have hsz := hb.size
      have HB : Hid (Below w.heap.size w wr) := hb
      have HW1 : Hid (W1 = wr.alloc (.cells #[.string d, .string c, .int .i64 n] 75)) := hW1
      have hown1 : W1.ownsRow w.heap.size 75 3 (.slice ad nn cp) qs.length (qs.flatMap pstC) := by rw [hW1]; exact hown.alloc _
      clear hb hb1 hW1
      by_cases c1 : 0 < n
      · have HPO : Hid (post1 ⟨d, c, n⟩ = [⟨d, c, n⟩]) := by show _ = _; simp [post1, c1]
        go_wp2_with (first
          | (at_builtin; refine wpList_append_new _ rfl _ _ 73 rfl w.heap.size 75 i0 pstZ 3 40 Tryz.underlying73 hi hz0 hz1 hz2 rfl (by decide) (.slice ad nn cp) _ _ rfl ((hown.alloc _).alloc _) ⟨wr.heap.size + 1, 0, none⟩ 1 1 (pstC ⟨d, c, n⟩) rfl rfl ?d1 ?d2 ?d3 ?d4 ?d5 (by omega) ?_)
          | go_in)
        case d1 => first | (simpa using pst_new (wr.alloc (.cells #[.string d, .string c, .int .i64 n] 75)) ⟨d, c, n⟩) | (intro j u h; simpa [pstC] using h)
        case d2 => exact pstC_one _
        case d3 => unfold maxLen; omega
        case d4 => omega
        case d5 => first | omega | (simp; omega)
        intro v' w2 hown2 hg2 hf2
        obtain ⟨ad2, nn2, cp2, hv2⟩ := own_lenL hown2
        subst hv2
        have HB2 : Hid (Below w.heap.size w w2) := by
          have b1 : Below w.heap.size w ((wr.alloc (.cells #[.string d, .string c, .int .i64 n] 75)).alloc (.cells #[.string d, .string c, .int .i64 n] 75)) := (HB.out.alloc hsz _).alloc (by simp; omega) _
          exact b1.grown hg2 b1.size (fun j hj => (hown.lt j hj).1)
        have HO2 : Hid (w2.ownsRow w.heap.size 75 3 (.slice ad2 nn2 cp2) (qs ++ post1 ⟨d, c, n⟩).length ((qs ++ post1 ⟨d, c, n⟩).flatMap pstC)) := by
          have e := HPO.out
          show w2.ownsRow _ _ _ _ _ _
          rw [e, List.length_append, List.flatMap_append]
          simpa using hown2
        clear hown2 hg2 hf2 hown hown1
        go_wp2
        go_roundw
        case rel =>
          refine ⟨k + 1, by omega, by go_num, ?_, HB2.out⟩
          rw [HTK.out]
          exact HO2.out
        case measure => simp [intOf]; omega
      · by_cases c2 : n < 0
        · have HPO : Hid (post1 ⟨d, c, n⟩ = [⟨c, d, wrap64 (-n)⟩]) := by show _ = _; simp [post1, c1, c2]
          go_wp2_with (first
            | (at_builtin; refine wpList_append_new _ rfl _ _ 73 rfl w.heap.size 75 i0 pstZ 3 40 Tryz.underlying73 hi hz0 hz1 hz2 rfl (by decide) (.slice ad nn cp) _ _ rfl ((hown.alloc _).alloc _) ⟨wr.heap.size + 1, 0, none⟩ 1 1 (pstC ⟨c, d, (wrap64 (-n))⟩) rfl rfl ?d1 ?d2 ?d3 ?d4 ?d5 (by omega) ?_)
            | go_in)
          case d1 => first | (simpa using pst_new (wr.alloc (.cells #[.string d, .string c, .int .i64 n] 75)) ⟨c, d, (wrap64 (-n))⟩) | (intro j u h; simpa [pstC] using h)
          case d2 => exact pstC_one _
          case d3 => unfold maxLen; omega
          case d4 => omega
          case d5 => first | omega | (simp; omega)
          intro v' w2 hown2 hg2 hf2
          obtain ⟨ad2, nn2, cp2, hv2⟩ := own_lenL hown2
          subst hv2
          have HB2 : Hid (Below w.heap.size w w2) := by
            have b1 : Below w.heap.size w ((wr.alloc (.cells #[.string d, .string c, .int .i64 n] 75)).alloc (.cells #[.string c, .string d, .int .i64 (wrap64 (-n))] 75)) := (HB.out.alloc hsz _).alloc (by simp; omega) _
            exact b1.grown hg2 b1.size (fun j hj => (hown.lt j hj).1)
          have HO2 : Hid (w2.ownsRow w.heap.size 75 3 (.slice ad2 nn2 cp2) (qs ++ post1 ⟨d, c, n⟩).length ((qs ++ post1 ⟨d, c, n⟩).flatMap pstC)) := by
            have e := HPO.out
            show w2.ownsRow _ _ _ _ _ _
            rw [e, List.length_append, List.flatMap_append]
            simpa using hown2
          clear hown2 hg2 hf2 hown hown1
          go_wp2
          go_roundw
          case rel =>
            refine ⟨k + 1, by omega, by go_num, ?_, HB2.out⟩
            rw [HTK.out]
            exact HO2.out
          case measure => simp [intOf]; omega
        · have HO2 : Hid (W1.ownsRow w.heap.size 75 3 (.slice ad nn cp) (qs ++ post1 ⟨d, c, n⟩).length ((qs ++ post1 ⟨d, c, n⟩).flatMap pstC)) := by
            have e : post1 ⟨d, c, n⟩ = [] := by unfold post1; rw [if_neg c1, if_neg c2]
            show W1.ownsRow _ _ _ _ _ _
            rw [e, List.append_nil]
            exact hown1
          have HB2 : Hid (Below w.heap.size w W1) := HB.out.trans (HB1.out.mono hsz)
          clear hown hown1
          go_wp2
          rw [← HW1.out]
          go_roundw
          case rel =>
            refine ⟨k + 1, by omega, by go_num, ?_, HB2.out⟩
            rw [HTK.out]
            exact HO2.out
          case measure => simp [intOf]; omega
    · have hk5 : k = 5 := by omega
      subst hk5
      have e : ff.take 5 = ff := List.take_of_length_le (by omega)
      rw [e, HFF.out] at hown
      obtain ⟨ad, nn, cp, hv⟩ := own_lenL hown
      subst hv
      have HO : Hid (wr.ownsRow w.heap.size 75 3 (.slice ad nn cp) (postL ⟨f1, f2, f3, f4, f5⟩).length ((postL ⟨f1, f2, f3, f4, f5⟩).flatMap pstC)) := hown
      have HB : Hid (Below w.heap.size w wr) := hb
      clear e hown hb
      go_wp2
      go_ret
      exact ⟨_, rfl, HO.out, HB.out⟩
end Go.Proofs.YtcfgacdcgljbaaaGreatDoor
namespace Go.Proofs.YtcfgacdcgljbaaaGreatDoor
open Go.RowKit
/-- Rows of parts of one length, laid flat. -/
theorem flat_len {α : Type} (f : α → List Value) (m : Nat) (hf : ∀ x, (f x).length = m) : ∀ l : List α, (l.flatMap f).length = l.length * m
  | [] => by simp
  | x :: l => by simp only [List.flatMap_cons, List.length_append, hf, flat_len f m hf l, List.length_cons]; rw [Nat.add_mul, Nat.one_mul, Nat.add_comm]
theorem flat_get {α : Type} (f : α → List Value) (m : Nat) (hf : ∀ x, (f x).length = m) : ∀ (l : List α) (k j : Nat) (hk : k < l.length), j < m → (l.flatMap f)[k * m + j]? = (f l[k])[j]?
  | [], k, j, hk, _ => absurd hk (Nat.not_lt_zero _)
  | x :: l, 0, j, _, hj => by
    rw [List.flatMap_cons, Nat.zero_mul, Nat.zero_add, List.getElem?_append_left (by rw [hf]; exact hj)]; rfl
  | x :: l, k + 1, j, hk, hj => by
    have e : (k + 1) * m + j = m + (k * m + j) := by rw [Nat.add_mul, Nat.one_mul]; omega
    rw [List.flatMap_cons, e, List.getElem?_append_right (by rw [hf]; omega), hf, Nat.add_sub_cancel_left]
    exact flat_get f m hf l k j (by simpa using hk) hj
/-- A cell of a row that a slice owns. -/
theorem own_cell {α : Type} {w : World} {B : Nat} {T : TypeId} {m g n cap : Nat} {f : α → List Value} {l : List α} (hf : ∀ x, (f x).length = m) (h : w.ownsRow B T m (.slice (some ⟨g, 0, none⟩) n cap) n (l.flatMap f)) (k j : Nat) (hk : k < l.length) (hj : j < m) :
    w.cell? ⟨g, k * m + j, none⟩ = (f l[k])[j]? ∧ w.frozen? ⟨g, k * m + j, none⟩ = false := by
  have hl := h.1
  rw [flat_len f m hf] at hl
  rcases h.2 with ⟨hv, _⟩ | ⟨g', cap', cur, hv, _, hg, hn, _, hs, ht⟩
  · cases hv
  · cases hv
    have hlt : k * m + j < (l.flatMap f).length := by
      rw [flat_len f m hf]
      have := Nat.mul_le_mul_right m (show k + 1 ≤ l.length from hk)
      rw [Nat.add_mul, Nat.one_mul] at this
      omega
    have hc : cur[k * m + j]? = (l.flatMap f)[k * m + j]? := by
      rw [← ht, List.getElem?_take_of_lt (by rw [← hl, ← flat_len f m hf]; exact hlt), Array.getElem?_toList]
    refine ⟨?_, ?_⟩
    · simp only [World.cell?, hg]
      rw [show (Option.isSome (none : Option _)) = false from rfl]
      simp only [Bool.false_eq_true, if_false]
      rw [hc, flat_get f m hf l k j hk hj]
    · simp [World.frozen?, hg]
theorem own_count {α : Type} {w : World} {B : Nat} {T : TypeId} {m n : Nat} {v : Value} {f : α → List Value} {l : List α} (hf : ∀ x, (f x).length = m) (hm : 0 < m) (h : w.ownsRow B T m v n (l.flatMap f)) : n = l.length := by
  have hl := h.1
  rw [flat_len f m hf] at hl
  exact (Nat.eq_of_mul_eq_mul_right hm hl).symm
/-- How a slice that owns its row is told. -/
theorem own_form {w : World} {B : Nat} {T : TypeId} {m n : Nat} {v : Value} {xs : List Value} (h : w.ownsRow B T m v n xs) :
    (v = .slice none 0 0 ∧ n = 0 ∧ xs = []) ∨ ∃ g cap, v = .slice (some ⟨g, 0, none⟩) n cap ∧ B ≤ g ∧ g < w.heap.size ∧ n ≤ cap ∧ cap ≤ maxLen := by
  rcases h.2 with ⟨hv, hn⟩ | ⟨g, cap, cur, hv, hB, hg, hn, hm, hs, ht⟩
  · refine Or.inl ⟨hv, hn, ?_⟩
    have := h.1
    rw [hn, Nat.zero_mul] at this
    exact List.length_eq_zero_iff.1 this
  · exact Or.inr ⟨g, cap, hv, hB, (Array.getElem?_eq_some_iff.1 hg).1, hn, hm⟩
theorem own_below {w w' : World} {B b : Nat} {T : TypeId} {m n : Nat} {v : Value} {xs : List Value} (h : w.ownsRow b T m v n xs) (hb : Below w.heap.size w w') (hB : B ≤ b) : w'.ownsRow B T m v n xs := by
  refine ⟨h.1, ?_⟩
  rcases h.2 with hn | ⟨g, cap, cur, hv, hBg, hg, rest⟩
  · exact Or.inl hn
  · refine Or.inr ⟨g, cap, cur, hv, Nat.le_trans hB hBg, ?_, rest⟩
    rw [hb.block g (Array.getElem?_eq_some_iff.1 hg).1]; exact hg
theorem cells_of_list {w : World} {b : Nat} {cs : List Value} {T : TypeId} (hb : b = w.heap.size) : ∀ j u, cs[j]? = some u → (w.alloc (.cells cs.toArray T)).cell? ((⟨b, 0, none⟩ : Addr).add j) = some u := by
  intro j u hj
  subst hb
  rw [Addr.add_lit, Nat.zero_add, World.cell?_alloc_at _ _ _ _ (by rfl)]
  simpa using hj
end Go.Proofs.YtcfgacdcgljbaaaGreatDoor
namespace Go.Proofs.YtcfgacdcgljbaaaGreatDoor
open Go.RowKit
/-- Postings that lie in a slice. -/
def PstsAt (w : World) (v : Value) (ps : List Pst) : Prop :=
  (v = .slice none 0 0 ∧ ps = []) ∨ ∃ g o cap, v = .slice (some ⟨g, o, none⟩) ps.length cap ∧ g < w.heap.size ∧ ∀ (k j : Nat) (hk : k < ps.length), j < 3 → w.cell? ⟨g, o + k * 3 + j, none⟩ = (pstC ps[k])[j]?
theorem PstsAt.below {w w' : World} {v : Value} {ps : List Pst} (h : PstsAt w v ps) (hb : Below w.heap.size w w') : PstsAt w' v ps := by
  rcases h with h | ⟨g, o, cap, e, hg, hc⟩
  · exact Or.inl h
  · exact Or.inr ⟨g, o, cap, e, Nat.lt_of_lt_of_le hg hb.size, fun k j hk hj => (hb.cell (p := ⟨g, o + k * 3 + j, none⟩) hg).trans (hc k j hk hj)⟩
theorem PstsAt.block {w : World} {v : Value} {ps : List Pst} (h : PstsAt w v ps) : ∀ k, v.ownBlock = some k → k < w.heap.size := by
  rcases h with ⟨rfl, _⟩ | ⟨g, o, cap, rfl, hg, _⟩
  · intro k hk; cases hk
  · intro k hk; simp [Value.ownBlock] at hk; omega
theorem PstsAt.same {w w' : World} {v : Value} {ps : List Pst} (h : PstsAt w v ps) (hs : w.heap.size ≤ w'.heap.size) (e : ∀ k, v.ownBlock = some k → w'.heap[k]? = w.heap[k]?) : PstsAt w' v ps := by
  rcases h with h | ⟨g, o, cap, rfl, hg, hc⟩
  · exact Or.inl h
  · exact Or.inr ⟨g, o, cap, rfl, by omega, fun k j hk hj => (World.cell?_of_block (a := ⟨g, o + k * 3 + j, none⟩) (e g rfl)).trans (hc k j hk hj)⟩
theorem PstsAt.of_own {w : World} {B : Nat} {v : Value} {ps : List Pst} (h : w.ownsRow B 75 3 v ps.length (ps.flatMap pstC)) : PstsAt w v ps := by
  rcases own_form h with ⟨hv, hn, _⟩ | ⟨g, cap, hv, _, hgl, _⟩
  · exact Or.inl ⟨hv, List.length_eq_zero_iff.1 hn⟩
  · subst hv
    exact Or.inr ⟨g, 0, cap, rfl, hgl, fun k j hk hj => by rw [Nat.zero_add]; exact (own_cell pstC_len h k j hk hj).1⟩
theorem below_cellL {w w' : World} {p : Addr} {v : Value} (hb : Below w.heap.size w w') (h : w.cell? p = some v) : w'.cell? p = some v := (hb.cell (World.block_lt_of_cell? _ _ h)).trans h
end Go.Proofs.YtcfgacdcgljbaaaGreatDoor
