/- The walks of slices.Clone and slices.ContainsFunc at postings. -/
import Derived.Test.YtppamojkhkdfpaaPstMem
import Derived.Test.YtppamojkhkdfpaaEventBase
namespace Go.Proofs.Ytppamojkhkdfpaa
open Go.RowKit
theorem nil_eqP (w : World) : (binOp BinOp.eql 26 (.slice none 0 0) (.slice none 0 0)).run Try.prog w = .ok (.bool true) w := by kernel_rfl
theorem some_eqP (a : Addr) (n c : Nat) (w : World) : (binOp BinOp.eql 26 (.slice (some a) n c) (.slice none 0 0)).run Try.prog w = .ok (.bool false) w := rfl
theorem heapP_new (w : World) (o : Obj) : (w.alloc o).heap[w.heap.size]? = some o := by
  show (w.heap.push o)[w.heap.size]? = some o
  simp
set_option maxHeartbeats 1000000 in
theorem pclone_any {B : Nat} (l : List Pst) (v : Value) (w : World) (h : w.ownsRow B 37 3 v l.length (l.flatMap pstC)) (hl : l.length ≤ 1000) :
    Calls Try.prog 10 #[v] w fun r w' => ∃ v' : Value, r = .returned v' ∧ w'.ownsRow w.heap.size 37 3 v' l.length (l.flatMap pstC) ∧ Below w.heap.size w w' := by
  obtain ⟨i0, hi, hz0, hz1, hz2⟩ := info_parts Try.infoPst
  rcases own_form h with ⟨hv, hn, _⟩ | ⟨g, cap, hv, _, hgl, _⟩
  · subst hv
    have hz : l = [] := List.length_eq_zero_iff.1 hn
    subst hz
    go_enter Try.func10, Try.ntmps10
    have hne := nil_eqP
    go_wp2
    go_ret
    exact ⟨_, rfl, World.ownsRow_nil _ _ _ _, Below.refl _ _⟩
  · subst hv
    have hcs := h.cells (g := g) rfl
    have HCS : Hid (∀ j u, (l.flatMap pstC)[j]? = some u → w.cell? ((⟨g, 0, none⟩ : Addr).add j) = some u) := hcs
    have hfl := flat_len pstC 3 pstC_len l
    clear h hcs
    have hE : (w.alloc (.cells #[] 37)).ownsRow w.heap.size 37 3 (.slice (some ⟨w.heap.size, 0, none⟩) 0 0) 0 [] :=
      ⟨rfl, Or.inr ⟨w.heap.size, 0, #[], rfl, Nat.le_refl _, heapP_new w _, Nat.le_refl _, Nat.zero_le _, rfl, rfl⟩⟩
    have HE := hidE hE
    clear hE
    go_enter Try.func10, Try.ntmps10
    have hne := some_eqP
    go_wp2_with (first
      | (at_builtin; refine wpList_append_own _ rfl _ _ 26 rfl w.heap.size 37 i0 pstZ 3 40 Try.underlying26 hi hz0 hz1 hz2 rfl (by decide) _ _ _ rfl HE.out ⟨g, 0, none⟩ l.length cap (l.flatMap pstC) rfl (by rw [hfl]) ?d1 ?d2 ?d3 ?d4 ?d5 ?_)
      | go_in)
    case d1 =>
      intro j u hj
      have h1 := HCS.out j u hj
      exact below_cellL ((Below.refl _ _).alloc (Nat.le_refl _) _) h1
    case d2 =>
      intro u hu
      obtain ⟨e, _, he⟩ := List.mem_flatMap.1 hu
      exact pstC_one e u he
    case d3 => unfold maxLen; omega
    case d4 => omega
    case d5 => simp
    intro v' w3 hown3 hgr _
    have HB3 : Hid (Below w.heap.size w w3) := ((Below.refl w.heap.size w).alloc (Nat.le_refl _) _).grown hgr (by simp) (fun j hj => by simp [Value.ownBlock] at hj; omega)
    clear hgr
    go_wp2
    go_ret
    exact ⟨_, rfl, hown3, HB3.out⟩
/-- A posting as it should be. -/
def Good (p : Pst) : Prop := 0 < p.amt ∧ p.deb ≠ p.cre
theorem bal3_any (p : Pst) (W : World) (h : Good p) : Calls Try.prog 14 #[pstV p] W fun r w' => r = .returned (.bool false) ∧ Below W.heap.size W w' := by
  obtain ⟨d, c, m⟩ := p
  obtain ⟨h1, h2⟩ := h
  simp only at h1 h2
  unfold pstV
  simp only
  have h3 : (d.toList == c.toList) = false := by
    rw [ByteArray.toList_eq, ByteArray.toList_eq, beq_eq_false_iff_ne]
    intro e
    exact h2 (ByteArray.ext (Array.toList_inj.1 e))
  have HB : Hid (∀ o : Obj, Below W.heap.size W (W.alloc o)) := fun o => (Below.refl _ _).alloc (Nat.le_refl _) o
  go_enter Try.func14, Try.ntmps14
  have H4 : Hid (decide (m ≤ 0) = false) := by show _ = _; simpa using h1
  go_wp2
  go_ret
  exact ⟨by show Ending.returned (.bool (decide (m ≤ 0))) = _; rw [H4.out], HB.out _⟩
set_option maxHeartbeats 1000000 in
theorem idx_none (l : List Pst) (v : Value) (w : World) (h : PstsAt w v l) (hg : ∀ p ∈ l, Good p) (hl : l.length ≤ 1000) :
    Calls Try.prog 18 #[v, .func (.func 14) #[] #[]] w fun r w' => r = .returned (.int .i64 (-1)) ∧ Below w.heap.size w w' := by
  obtain ⟨ad, nv, cv, hv⟩ : ∃ ad n cap, v = .slice ad n cap ∧ n = l.length := by
    rcases h with ⟨e, e2⟩ | ⟨g, o, c, e, _⟩
    · exact ⟨none, 0, 0, e, by rw [e2]; rfl⟩
    · exact ⟨_, _, _, e, rfl⟩
  obtain ⟨rfl, hnn⟩ := hv
  subst hnn
  have HP := hidE h
  have HG := hidE hg
  clear h hg
  go_enter Try.func18, Try.ntmps18
  go_wp2
  go_loopw [8] (fun i wr => ∃ k : Nat, k ≤ l.length ∧ i = .int .i64 k ∧ Below w.heap.size w wr) (fun i _ => l.length - (intOf i).toNat)
  case atStart => exact ⟨0, Nat.zero_le _, rfl, Below.refl _ _⟩
  case round =>
    obtain ⟨k, hk, rfl, hb⟩ := hrel
    by_cases hlt : k < l.length
    · rcases HP.out.below hb with ⟨_, e2⟩ | ⟨g, o, cp, e1, hg, hc⟩
      · rw [e2] at hlt; exact absurd hlt (Nat.not_lt_zero _)
      · simp only [Value.slice.injEq] at e1
        obtain ⟨rfl, _, rfl⟩ := e1
        have q0 := hc k 0 hlt (by omega)
        have q1 := hc k 1 hlt (by omega)
        have q2 := hc k 2 hlt (by omega)
        have hcall := bal3_any l[k] wr (HG.out _ (List.getElem_mem hlt))
        obtain ⟨x, hx⟩ : ∃ x, x = l[k] := ⟨_, rfl⟩
        rw [← hx] at q0 q1 q2 hcall
        clear hx hc
        obtain ⟨d, c, m⟩ := x
        unfold pstV at hcall
        simp only [pstC, List.getElem?_cons_zero, List.getElem?_cons_succ, Nat.add_zero] at q0 q1 q2 hcall
        go_wp2_with fail
        refine hcall.mono ?_
        rintro e w1 ⟨rfl, hb1⟩
        have hb2 : Below w.heap.size w w1 := hb.trans (hb1.mono hb.size)
        clear hcall q0 q1 q2
        go_wp2
        go_roundw
        case rel => exact ⟨k + 1, by omega, by go_num, hb2⟩
        case measure => simp [intOf]; omega
    · obtain rfl : k = l.length := by omega
      go_wp2
      go_ret
      exact ⟨rfl, hb⟩
theorem cont_none (l : List Pst) (v : Value) (w : World) (h : PstsAt w v l) (hg : ∀ p ∈ l, Good p) (hl : l.length ≤ 1000) :
    Calls Try.prog 13 #[v, .func (.func 14) #[] #[]] w fun r w' => r = .returned (.bool false) ∧ Below w.heap.size w w' := by
  have hix := idx_none l v w h hg hl
  obtain ⟨ad, nv, cv, rfl⟩ : ∃ ad n cap, v = .slice ad n cap := by
    rcases h with ⟨e, e2⟩ | ⟨g, o, c, e, _⟩
    · exact ⟨none, 0, 0, e⟩
    · exact ⟨_, _, _, e⟩
  clear h hg
  go_enter Try.func13, Try.ntmps13
  go_wp2_with fail
  refine hix.mono ?_
  rintro e w1 ⟨rfl, hb⟩
  clear hix
  go_wp2
  go_ret
  exact ⟨rfl, hb⟩
end Go.Proofs.Ytppamojkhkdfpaa
