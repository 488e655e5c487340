/- append of events that are handed in onto a slice of none. -/
import Derived.Test.YtppamojkhkdfpaaDoorRefStabC
namespace Go.Proofs.YtppamojkhkdfpaaDoor
open Go.RowKit
theorem run_app0 (a : Addr) (ao : Option Addr) (cap : Nat) (ty : TypeId) (w : World) : (Builtin.append_ #[22, 22] ty #[.slice (some a) 0 0, .slice ao 0 cap]).run Tryd.prog w = .ok (.slice (some a) 0 0) w := by
  rcases ao with _ | g
  · first
    | kernel_rfl
    | (have u := Tryd.underlying22
       go_simp)
  · first
    | kernel_rfl
    | (have u := Tryd.underlying22
       go_simp)
theorem wpList_app_evs {w : World} {ops : Array Oper} {rest : List Oper} {o : Oper} {a : Act} {Q : Exit → Act → World → Prop} (hgd : o.guard = none) (s x : Operand)
    (ho : o.op = .call { callee := .builtin .append, args := #[s, x], argTypes := #[22, 22] })
    (b : Nat) (hs : a.eval s = .slice (some ⟨b, 0, none⟩) 0 0) (hown : w.ownsRow b 24 7 (.slice (some ⟨b, 0, none⟩) 0 0) 0 []) (l : List Ev) (ao : Option Addr) (cap : Nat) (hx : a.eval x = .slice ao l.length cap) (hy : EvsC w ao l)
    (hl : l.length ≤ 100000) (hB : b ≤ w.heap.size)
    (h : ∀ v' w', w'.ownsRow b 24 7 v' l.length (l.flatMap evC) → w.grownBy w' (some b) → wpList Tryd.prog ops Q rest (a.put o.dst v') w') : wpList Tryd.prog ops Q (o :: rest) a w := by
  obtain ⟨i0, hi, hz0, hz1, hz2⟩ := info_parts Tryd.infoEv
  by_cases hl0 : l = []
  · subst hl0
    refine wpList_plain hgd fun K hK => ?_
    have hrun := run_app0 ⟨b, 0, none⟩ ao cap o.type w
    simp only [List.length_nil] at hx
    unfold Oper.wp
    simp [execOp, ho, resolve, invoke, builtin, hs, hx, hrun, Result.andThen]
    exact hK _ _ (h _ w hown ⟨rfl, rfl, rfl, Nat.le_refl _, fun _ _ _ => rfl⟩)
  · obtain ⟨g, of, hao, hgl, hc⟩ := hy (List.length_pos_iff.2 hl0)
    subst hao
    refine wpList_append_own w hgd s x 22 ho b 24 i0 evZ 7 64 Tryd.underlying22 hi hz0 hz1 hz2 rfl (by decide) _ _ _ hs hown ⟨g, of, none⟩ l.length cap (l.flatMap evC) hx (flat_len evC 7 evC_len l) (fun j u hj => ?_) (fun u hu => ?_) (by unfold maxLen; omega) (by omega) hB (fun v' w' h1 h2 _ => h v' w' (by simpa using h1) h2)
    · rw [Addr.add_lit]; exact evs_flat hc j u hj
    · obtain ⟨e, _, he⟩ := List.mem_flatMap.1 hu
      exact evC_one e u he
end Go.Proofs.YtppamojkhkdfpaaDoor
