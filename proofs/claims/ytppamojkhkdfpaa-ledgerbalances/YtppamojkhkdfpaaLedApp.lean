/- append of postings onto postings. -/
import Derived.Test.YtppamojkhkdfpaaPstMem
import Derived.Laws.AppendOwnNone
namespace Go.Proofs.Ytppamojkhkdfpaa
open Go.RowKit
theorem wpList_app_psts {w : World} {ops : Array Oper} {rest : List Oper} {o : Oper} {a : Act} {Q : Exit → Act → World → Prop} (hgd : o.guard = none) (s x : Operand)
    (ho : o.op = .call { callee := .builtin .append, args := #[s, x], argTypes := #[26, 26] })
    (B : Nat) (v : Value) (as' bs : List Pst) (hs : a.eval s = v) (hown : w.ownsRow B 37 3 v as'.length (as'.flatMap pstC)) (yv : Value) (hx : a.eval x = yv) (hy : PstsAt w yv bs)
    (hl : as'.length + bs.length ≤ 100000) (hB : B ≤ w.heap.size)
    (h : ∀ v' w', w'.ownsRow B 37 3 v' (as' ++ bs).length ((as' ++ bs).flatMap pstC) → w.grownBy w' v.ownBlock → wpList Try.prog ops Q rest (a.put o.dst v') w') : wpList Try.prog ops Q (o :: rest) a w := by
  obtain ⟨i0, hi, hz0, hz1, hz2⟩ := info_parts Try.infoPst
  rcases hy with ⟨rfl, rfl⟩ | ⟨g, of, cap, rfl, hg, hc⟩
  · refine wpList_append_own_none hgd s x 26 ho B 37 i0 3 Try.underlying26 hi v _ _ hs hown hx (h v w (by rw [List.append_nil]; exact hown) ⟨rfl, rfl, rfl, Nat.le_refl _, fun _ _ _ => rfl⟩)
  · refine wpList_append_own w hgd s x 26 ho B 37 i0 pstZ 3 40 Try.underlying26 hi hz0 hz1 hz2 rfl (by decide) v _ _ hs hown ⟨g, of, none⟩ bs.length cap (bs.flatMap pstC) hx (flat_len pstC 3 pstC_len bs) (fun j u hj => ?_) (fun u hu => ?_) (by unfold maxLen; omega) (by omega) hB (fun v' w' h1 h2 _ => h v' w' (by rw [List.length_append, List.flatMap_append]; exact h1) h2)
    · have hlt : j < (bs.flatMap pstC).length := (List.getElem?_eq_some_iff.1 hj).1
      rw [flat_len pstC 3 pstC_len] at hlt
      have hjk : j / 3 < bs.length := by omega
      have e := hc (j / 3) (j % 3) hjk (Nat.mod_lt _ (by omega))
      have e2 := flat_get pstC 3 pstC_len bs (j / 3) (j % 3) hjk (Nat.mod_lt _ (by omega))
      have e3 : j / 3 * 3 + j % 3 = j := by omega
      rw [e3] at e2
      rw [← e2, hj, Nat.add_assoc, e3] at e
      rw [Addr.add_lit]
      exact e
    · obtain ⟨e, _, he⟩ := List.mem_flatMap.1 hu
      exact pstC_one e u he
end Go.Proofs.Ytppamojkhkdfpaa
