/- The walks of slices.Clone and slices.Equal at closes, and of (*period.Periods).Closed. What holds of closes, in plain mathematics. No walk. -/
import Derived.Test.YtmldaiofghpfdaaGreatDoorBnBoth
import Derived.Laws.StructEq
import Derived.Test.YtmldaiofghpfdaaGreatDoorPerDo
namespace Go.Proofs.YtmldaiofghpfdaaGreatDoor
open Go.RowKit Go.Maps
theorem nil_cl (w : World) : (binOp BinOp.eql 28 (.slice none 0 0) (.slice none 0 0)).run Tryz.prog w = .ok (.bool true) w := by kernel_rfl
theorem some_cl (a : Addr) (n c : Nat) (w : World) : (binOp BinOp.eql 28 (.slice (some a) n c) (.slice none 0 0)).run Tryz.prog w = .ok (.bool false) w := by kernel_rfl
theorem neq_cl (a b c d e f g : Int) (w : World) : (binOp BinOp.neq 71 (.agg #[.int .i64 a, .int .i64 b, .int .i64 c, .int .i64 d, .int .i64 e, .int .i64 f, .int .i64 g]) (.agg #[.int .i64 a, .int .i64 b, .int .i64 c, .int .i64 d, .int .i64 e, .int .i64 f, .int .i64 g])).run Tryz.prog w = .ok (.bool false) w := by
  have hS : Tryz.prog.underlying 71 = some (.struct (Tryz.prog.fieldsOf 71)) := by kernel_rfl
  have hp : Tryz.prog.stoodInHeld 71 = false := by kernel_rfl
  have u3 := Tryz.underlying3
  have a3 := Tryz.isAgg3
  have z3 := Tryz.sizeOf3
  rw [run_neq_struct, show (10000 : Nat) = 9999 + 1 from rfl, run_equalIn_agg w 9999 71 _ _ hS hp]
  simp only [Program.fieldsOf, Tryz.underlying71, Op.eqFields]
  clear hS hp
  go_simp
set_option maxHeartbeats 1000000 in
theorem clone_cl {B : Nat} (l : List Cl) (v : Value) (w : World) (h : w.ownsRow B 71 7 v l.length (l.flatMap clC)) (hl : l.length ≤ 1000) :
    Calls Tryz.prog 56 #[v] w fun r w' => ∃ v' : Value, r = .returned v' ∧ w'.ownsRow w.heap.size 71 7 v' l.length (l.flatMap clC) ∧ Below w.heap.size w w' := by
  obtain ⟨i0, hi, hz0, hz1, hz2⟩ := info_parts cl_info
  rcases own_form h with ⟨hv, hn, _⟩ | ⟨g, cap, hv, _, hgl, _⟩
  · subst hv
    have hz : l = [] := List.length_eq_zero_iff.1 hn
    subst hz
    go_enter Tryz.func56, Tryz.ntmps56
    have hne := nil_cl
    go_wp2
    go_ret
    exact ⟨_, rfl, World.ownsRow_nil _ _ _ _, Below.refl _ _⟩
  · subst hv
    have hcs := h.cells (g := g) rfl
    have HCS : Hid (∀ j u, (l.flatMap clC)[j]? = some u → w.cell? ((⟨g, 0, none⟩ : Addr).add j) = some u) := hcs
    have hfl := flat_len clC 7 clC_len l
    clear h hcs
    have hE : (w.alloc (.cells #[] 71)).ownsRow w.heap.size 71 7 (.slice (some ⟨w.heap.size, 0, none⟩) 0 0) 0 [] :=
      ⟨rfl, Or.inr ⟨w.heap.size, 0, #[], rfl, Nat.le_refl _, heap_alloc_new w _, Nat.le_refl _, Nat.zero_le _, rfl, rfl⟩⟩
    have HE : Hid _ := hE
    clear hE
    go_enter Tryz.func56, Tryz.ntmps56
    have hne := some_cl
    go_wp2_with (first
      | (at_builtin; refine wpList_append_own _ rfl _ _ 28 rfl w.heap.size 71 i0 clZ 7 56 Tryz.underlying28 hi hz0 hz1 hz2 rfl (by decide) _ _ _ rfl HE.out ⟨g, 0, none⟩ l.length cap (l.flatMap clC) rfl (by rw [hfl]) ?d1 ?d2 ?d3 ?d4 (by simp) ?_)
      | go_in)
    case d1 =>
      intro j u hj
      have hadd : (⟨g, 0, none⟩ : Addr).add j = ⟨g, j, none⟩ := by unfold Addr.add; split <;> simp_all
      have := HCS.out j u hj
      rw [hadd] at this
      exact this
    case d2 =>
      intro u e _ he
      exact clC_one e u he
    case d3 => unfold maxLen; omega
    case d4 => omega
    intro v' w3 hown3 hgr _
    have HB3 : Hid (Below w.heap.size w w3) := ((Below.refl w.heap.size w).alloc (Nat.le_refl _) _).grown hgr (by simp) (fun j hj => by simp [Value.ownBlock] at hj; omega)
    clear hgr
    go_wp2
    go_ret
    exact ⟨_, rfl, hown3, HB3.out⟩
/-- A slice whose first places hold these closes. -/
def ClsAt (w : World) (ad : Option Addr) (l : List Cl) : Prop := 0 < l.length → ∃ g, ad = some ⟨g, 0, none⟩ ∧ ∀ k (hk : k < l.length) j, j < 7 → w.cell? ⟨g, k * 7 + j, none⟩ = (clC l[k])[j]?
set_option maxHeartbeats 1000000 in
theorem eqCl_any (l : List Cl) (a1 a2 : Option Addr) (c1 c2 : Nat) (w : World) (h1 : ClsAt w a1 l) (h2 : ClsAt w a2 l) (hl : l.length ≤ 1000000) :
    Calls Tryz.prog 25 #[.slice a1 l.length c1, .slice a2 l.length c2] w fun r w' => r = .returned (.bool true) ∧ ∃ m, w' = w.drewN m := by
  have H1 : Hid (ClsAt w a1 l) := h1
  have H2 : Hid (ClsAt w a2 l) := h2
  clear h1 h2
  go_enter Tryz.func25, Tryz.ntmps25
  go_wp2
  go_loopw [13] (fun i wr => ∃ k : Nat, k ≤ l.length ∧ i = .int .i64 k ∧ ∃ m, wr = w.drewN m) (fun i _ => l.length - (intOf i).toNat)
  case atStart => exact ⟨0, Nat.zero_le _, rfl, 0, rfl⟩
  case round =>
    obtain ⟨k, hk, rfl, m0, hwr⟩ := hrel
    by_cases hlt : k < l.length
    · have hA1 : ClsAt wr a1 l := by rw [hwr]; exact H1.out
      have hA2 : ClsAt wr a2 l := by rw [hwr]; exact H2.out
      obtain ⟨g1, rfl, p⟩ := hA1 (by omega)
      obtain ⟨g2, rfl, q⟩ := hA2 (by omega)
      have p0 := p k hlt 0 (by omega)
      have p1 := p k hlt 1 (by omega)
      have p2 := p k hlt 2 (by omega)
      have p3 := p k hlt 3 (by omega)
      have p4 := p k hlt 4 (by omega)
      have p5 := p k hlt 5 (by omega)
      have p6 := p k hlt 6 (by omega)
      have q0 := q k hlt 0 (by omega)
      have q1 := q k hlt 1 (by omega)
      have q2 := q k hlt 2 (by omega)
      have q3 := q k hlt 3 (by omega)
      have q4 := q k hlt 4 (by omega)
      have q5 := q k hlt 5 (by omega)
      have q6 := q k hlt 6 (by omega)
      clear p q
      generalize l[k] = y at p0 p1 p2 p3 p4 p5 p6 q0 q1 q2 q3 q4 q5 q6
      obtain ⟨ym, yt, y1, y2, y3, y4, y5⟩ := y
      simp only [clC, figC, List.getElem?_cons_zero, List.getElem?_cons_succ, Nat.add_zero] at p0 p1 p2 p3 p4 p5 p6 q0 q1 q2 q3 q4 q5 q6
      have hne := neq_cl ym yt y1 y2 y3 y4 y5
      have mixed := csP.mixed
      have HWR : Hid (wr = w.drewN m0) := hwr
      clear hwr
      go_wp2_with fail
      go_quiet (fail)
      go_wp2
      go_roundw
      case rel => exact ⟨k + 1, by omega, by go_num, m0 + nq, by rw [HWR.out, World.drewN_drewN]⟩
      case measure => simp [intOf]; omega
    · obtain rfl : k = l.length := by omega
      have HWR : Hid (wr = w.drewN m0) := hwr
      clear hwr
      go_wp2
      go_ret
      exact ⟨rfl, m0, HWR.out⟩
set_option maxHeartbeats 1000000 in
theorem closed_any {w : World} {B pp : Nat} {cv : Value} {cs : List Cl} (hp : PerAt w B pp cv cs) (hl : cs.length ≤ 1000) :
    Calls Tryz.prog 21 #[.pointer (some ⟨pp, 0, none⟩)] w fun r w' => ∃ v' : Value, r = .returned v' ∧ w'.ownsRow w.heap.size 71 7 v' cs.length (cs.flatMap clC) ∧ Below w.heap.size w w' := by
  have hcl := clone_cl cs cv w hp.own hl
  have hc := hp.c0
  obtain ⟨ad, cap, hcv⟩ := own_lenN hp.own
  subst hcv
  clear hp
  go_enter Tryz.func21, Tryz.ntmps21
  go_wp2_with fail
  refine hcl.mono ?_
  rintro r w1 ⟨v, rfl, hown, hb⟩
  obtain ⟨ad1, cap1, hv⟩ := own_lenN hown
  subst hv
  go_wp2
  go_ret
  exact ⟨_, rfl, hown, hb⟩
end Go.Proofs.YtmldaiofghpfdaaGreatDoor
namespace Go.Proofs.YtmldaiofghpfdaaGreatDoor
open Go.RowKit
def PastOK (b : Bk) (t : Int) : Prop := ((srt (asOf b t)).map (·.id)).Nodup ∧ (∀ e ∈ srt (asOf b t), EvW e) ∧ (srt (asOf b t)).length ≤ 10000
structure CInv (b : Bk) (cs : List Cl) : Prop where
  asc : cs.Pairwise fun x y => x.month < y.month
  tur : cs.Pairwise fun x y => x.turn ≤ y.turn
  bd : ∀ c ∈ cs, 0 ≤ c.turn ∧ c.turn ≤ b.n
  sum : ∀ i (h : i < cs.length), sumC fig0 (cs.take (i + 1)) = untl (srt (asOf b cs[i].turn)) cs[i].month
  past : ∀ c ∈ cs, PastOK b c.turn
theorem cinv_zero (b : Bk) : CInv b [] := ⟨List.Pairwise.nil, List.Pairwise.nil, by simp, fun i h => absurd h (Nat.not_lt_zero _), by simp⟩
theorem cinv_act {b b' : Bk} {cs : List Cl} {x : Ac} (h : CInv b cs) (hi : Inv b) (hs : StepA b x b') : CInv b' cs := by
  have hn := step_n hs
  refine ⟨h.asc, h.tur, fun c hc => ?_, fun i hi' => ?_, fun c hc => ?_⟩
  · have := h.bd c hc; omega
  · rw [asOf_step hi hs _ (h.bd _ (List.getElem_mem hi')).2]
    exact h.sum i hi'
  · unfold PastOK
    rw [asOf_step hi hs _ (h.bd c hc).2]
    exact h.past c hc
theorem cov_no {cs : List Cl} {m : Int} (ha : cs.Pairwise fun x y => x.month < y.month) (h : cov cs m = false) : ∀ c ∈ cs, c.month < m := by
  rcases List.eq_nil_or_concat cs with rfl | ⟨a, l, rfl⟩
  · simp
  · rw [List.concat_eq_append] at ha h ⊢
    rw [cov_snoc] at h
    have hl : l.month < m := by simpa using h
    intro c hc
    rcases List.mem_append.1 hc with hc | hc
    · have := (List.pairwise_append.1 ha).2.2 c hc l (by simp)
      omega
    · rw [List.mem_singleton] at hc; rw [hc]; exact hl
theorem cinv_close {b : Bk} {cs cs' : List Cl} {m c : Int} {F : Fig} (h : CInv b cs) (hi : Inv b) (hd : DoesC b cs m c F cs') : CInv b cs' ∧ ∃ t, cs' = cs ++ t ∧ t.length ≤ 1 := by
  rcases hd with ⟨_, _, _, rfl⟩ | ⟨_, _, _, _, rfl⟩ | ⟨_, _, _, _, _, rfl⟩ | ⟨_, hc, _, _, hF, rfl⟩
  · exact ⟨h, [], by simp, by simp⟩
  · exact ⟨h, [], by simp, by simp⟩
  · exact ⟨h, [], by simp, by simp⟩
  · refine ⟨⟨?_, ?_, fun x hx => ?_, fun i hi' => ?_, fun x hx => ?_⟩, _, rfl, by simp⟩
    · refine List.pairwise_append.2 ⟨h.asc, List.pairwise_singleton .., fun x hx y hy => ?_⟩
      rw [List.mem_singleton] at hy
      subst hy
      exact cov_no h.asc hc x hx
    · refine List.pairwise_append.2 ⟨h.tur, List.pairwise_singleton .., fun x hx y hy => ?_⟩
      rw [List.mem_singleton] at hy
      subst hy
      exact (h.bd x hx).2
    · rcases List.mem_append.1 hx with hx | hx
      · exact h.bd x hx
      · rw [List.mem_singleton] at hx
        subst hx
        exact ⟨hi.n0, Int.le_refl _⟩
    · by_cases hlt : i < cs.length
      · rw [List.take_append_of_le_length (by omega), List.getElem_append_left hlt]
        exact h.sum i hlt
      · have e : i = cs.length := by
          rw [List.length_append] at hi'
          simp at hi'
          omega
        subst e
        rw [List.take_of_length_le (by simp), List.getElem_append_right (Nat.le_refl _)]
        simp only [Nat.sub_self, List.getElem_cons_zero]
        rw [hF]
        exact sum_close cs m b.n (untl_ok _ _)
    · rcases List.mem_append.1 hx with hx | hx
      · exact h.past x hx
      · rw [List.mem_singleton] at hx
        subst hx
        exact now_ok hi
end Go.Proofs.YtmldaiofghpfdaaGreatDoor
