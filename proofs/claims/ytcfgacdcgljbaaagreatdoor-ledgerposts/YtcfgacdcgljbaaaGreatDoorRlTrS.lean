/- Balances that are sorted, each account once, are one row. No walk. -/
import Derived.Test.YtcfgacdcgljbaaaGreatDoorRlTrial
namespace Go.Proofs.YtcfgacdcgljbaaaGreatDoor
open Go.RowKit
theorem row_one : ∀ {a b : List ByteArray}, a.Nodup → b.Nodup → (∀ x, x ∈ a ↔ x ∈ b) → (a.Pairwise fun x y => x.data.toList ≤ y.data.toList) → (b.Pairwise fun x y => x.data.toList ≤ y.data.toList) → a = b
  | [], [], _, _, _, _, _ => rfl
  | [], y :: _, _, _, hm, _, _ => absurd ((hm y).2 List.mem_cons_self) List.not_mem_nil
  | x :: _, [], _, _, hm, _, _ => absurd ((hm x).1 List.mem_cons_self) List.not_mem_nil
  | x :: a, y :: b, ha, hb, hm, sa, sb => by
    rw [List.nodup_cons] at ha hb
    rw [List.pairwise_cons] at sa sb
    have hxy : x = y := by
      rcases List.mem_cons.1 ((hm x).1 List.mem_cons_self) with e | h1
      · exact e
      · rcases List.mem_cons.1 ((hm y).2 List.mem_cons_self) with e | h2
        · exact e.symm
        · have h3 := sb.1 x h1
          have h4 := sa.1 y h2
          exact ByteArray.ext (Array.toList_inj.1 (List.le_antisymm h4 h3))
    subst hxy
    rw [row_one ha.2 hb.2 (fun z => ?_) sa.2 sb.2]
    have h := hm z
    constructor
    · intro hz
      rcases List.mem_cons.1 (h.1 (List.mem_cons_of_mem _ hz)) with e | h1
      · subst e; exact absurd hz ha.1
      · exact h1
    · intro hz
      rcases List.mem_cons.1 (h.2 (List.mem_cons_of_mem _ hz)) with e | h1
      · subst e; exact absurd hz hb.1
      · exact h1
/-- The document's balances are the program's. -/
theorem gath_is {out : List Blc} {f : ByteArray → Int} {S : ByteArray → Prop} {ks : List ByteArray} (h : Gath out f S) (hs : out.Pairwise fun a b => a.acc.data.toList ≤ b.acc.data.toList) (hk : Keys S ks) : out = ks.map fun k => ⟨k, f k⟩ := by
  have e : out.map (·.acc) = ks := row_one h.nd hk.nodup (fun x => (h.mem x).trans (hk.mem x).symm) (List.pairwise_map.2 hs) hk.sorted
  rw [← e, List.map_map]
  have : out.map id = out.map ((fun k => (⟨k, f k⟩ : Blc)) ∘ (·.acc)) := List.map_congr_left fun b hb => by
    show b = ⟨b.acc, f b.acc⟩
    rw [← h.val b hb]
  rw [List.map_id] at this
  exact this
end Go.Proofs.YtcfgacdcgljbaaaGreatDoor
