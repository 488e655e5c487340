/- The walks of (*period.Periods).covers, unposted, Open, Late. -/
import Derived.Test.YtppamojkhkdfpaaGreatDoorPerUntil
import Derived.Test.YtppamojkhkdfpaaGreatDoorBookAs
import Derived.Test.YtppamojkhkdfpaaGreatDoorBnS
namespace Go.Proofs.YtppamojkhkdfpaaGreatDoor
open Go.RowKit Go.Maps
/-- Closes in memory. -/
structure PerAt (w : World) (B pp : Nat) (cv : Value) (cs : List Cl) : Prop where
  c0 : w.cell? ⟨pp, 0, none⟩ = some cv
  f0 : w.frozen? ⟨pp, 0, none⟩ = false
  own : w.ownsRow B 71 7 cv cs.length (cs.flatMap clC)
  ne : cv.ownBlock ≠ some pp
  ge : B ≤ pp
theorem PerAt.lt {w : World} {B pp : Nat} {cv : Value} {cs : List Cl} (h : PerAt w B pp cv cs) : pp < w.heap.size := World.block_lt_of_cell? _ _ h.c0
theorem PerAt.below {w w' : World} {B pp : Nat} {cv : Value} {cs : List Cl} (h : PerAt w B pp cv cs) (hb : Below w.heap.size w w') : PerAt w' B pp cv cs :=
  ⟨below_cell hb h.c0, (hb.frozen (p := ⟨pp, 0, none⟩) h.lt).trans h.f0, own_below h.own hb (Nat.le_refl _), h.ne, h.ge⟩
/-- Another thing has turned. -/
theorem PerAt.turned {w w' : World} {B pp pb : Nat} {cv sv : Value} {cs : List Cl} (h : PerAt w B pp cv cs) (t : Turned w w' pb sv) (h1 : pp ≠ pb) (h2 : sv.ownBlock ≠ some pp) (h3 : cv.ownBlock ≠ some pb) (h4 : ∀ g, cv.ownBlock = some g → sv.ownBlock ≠ some g) : PerAt w' B pp cv cs := by
  have e := t.block pp h.lt h1 h2
  exact ⟨(World.cell?_of_block (a := ⟨pp, 0, none⟩) e).trans h.c0, (World.frozen?_of_block (a := ⟨pp, 0, none⟩) e).trans h.f0, row_same h.own fun k hk => t.block k ((h.own.lt k hk).2) (fun x => h3 (x ▸ hk)) (h4 k hk), h.ne, h.ge⟩
/-- Whether a month is closed. -/
def cov (cs : List Cl) (m : Int) : Bool := match cs.getLast? with
  | none => false
  | some c => decide (m ≤ c.month)
theorem cov_snoc (a : List Cl) (c : Cl) (m : Int) : cov (a ++ [c]) m = decide (m ≤ c.month) := by unfold cov; simp
theorem drew_same (w : World) (j : Nat) : Below w.heap.size w (w.drewN j) := ⟨rfl, rfl, rfl, Nat.le_refl _, fun _ _ => rfl⟩
set_option maxHeartbeats 4000000 in
theorem covers_any {w : World} {B pp : Nat} {cv : Value} {cs : List Cl} (h : PerAt w B pp cv cs) (hl : cs.length ≤ 1000) (m : Int) :
    Calls Tryz.prog 47 #[.pointer (some ⟨pp, 0, none⟩), .int .i64 m] w fun r w' => r = .returned (.bool (cov cs m)) ∧ ∃ j, w' = w.drewN j := by
  rcases List.eq_nil_or_concat cs with hcs | ⟨a, c, hcs⟩
  · subst hcs
    obtain ⟨ad, cap, hcv⟩ := own_lenN h.own
    have q0 : ∀ j, (w.drewN j).cell? ⟨pp, 0, none⟩ = some (.slice ad 0 cap) := fun j => by have e : cv = .slice ad 0 cap := hcv; rw [← e]; exact h.c0
    have mixed := csP.mixed
    clear h
    go_enter Tryz.func47, Tryz.ntmps47
    go_wp2_with fail
    go_quiet (fail)
    go_wp2
    go_ret
    exact ⟨rfl, _, rfl⟩
  · rw [List.concat_eq_append] at hcs
    subst hcs
    rw [cov_snoc]
    rcases own_form h.own with ⟨_, z2, _⟩ | ⟨g, cap, hcv, _⟩
    · rw [List.length_append] at z2; exact absurd z2 (by simp)
    · subst hcv
      have hm := (own_cell clC_len h.own a.length 0 (by simp) (by decide)).1
      simp only [Nat.add_zero, List.getElem_append_right (Nat.le_refl _), Nat.sub_self, List.getElem_cons_zero, clC, List.getElem?_cons_zero] at hm
      have hc0 := h.c0
      simp only [List.length_append, List.length_cons, List.length_nil, Nat.zero_add] at hc0 hl
      have q0 : ∀ j, (w.drewN j).cell? ⟨pp, 0, none⟩ = some (.slice (some ⟨g, 0, none⟩) (a.length + 1) cap) := fun j => hc0
      have q1 : ∀ j, (w.drewN j).cell? ⟨g, a.length * 7, none⟩ = some (.int .i64 c.month) := fun j => hm
      have mixed := csP.mixed
      have hpos : (0 : Int) < (a.length : Int) + 1 := by omega
      clear h hm hc0
      by_cases hc : m ≤ c.month
      · rw [decide_eq_true hc]
        go_enter Tryz.func47, Tryz.ntmps47
        go_wp2_with fail
        go_quiet (fail)
        go_wp2
        go_ret
        exact ⟨rfl, _, rfl⟩
      · rw [decide_eq_false hc]
        go_enter Tryz.func47, Tryz.ntmps47
        go_wp2_with fail
        go_quiet (fail)
        go_wp2
        go_ret
        refine ⟨?_, _, rfl⟩
        simp [hc]
theorem orEmpty_any (a : Addr) (w : World) : Calls Tryz.prog 48 #[.pointer (some a)] w fun r w' => r = .returned (.pointer (some a)) ∧ w' = w := by
  go_enter Tryz.func48, Tryz.ntmps48
  go_wp2
  go_ret
  exact ⟨rfl, rfl⟩
end Go.Proofs.YtppamojkhkdfpaaGreatDoor
