/- A book and closes, both in memory. A book that is new; rows of one event, and of none. -/
import Derived.Test.YtmldaiofghpfdaaGreatDoorPerDo
import Derived.Test.YtmldaiofghpfdaaGreatDoorBookAct
import Derived.Test.YtmldaiofghpfdaaGreatDoorBookAs
namespace Go.Proofs.YtmldaiofghpfdaaGreatDoor
open Go.RowKit Go.Maps
theorem book_apart {w w' : World} {B pb pp : Nat} {sv cv : Value} {b : Bk} (h : BookAt w B pb sv b) (t : Turned w w' pp cv) (h1 : pb ≠ pp) (h2 : cv.ownBlock ≠ some pb) (h3 : sv.ownBlock ≠ some pp) (h4 : ∀ g, sv.ownBlock = some g → cv.ownBlock ≠ some g) : BookAt w' B pb sv b := by
  have e := t.block pb h.lt h1 h2
  exact ⟨(World.cell?_of_block (a := ⟨pb, 0, none⟩) e).trans h.c0, (World.cell?_of_block (a := ⟨pb, 1, none⟩) e).trans h.c1, (World.cell?_of_block (a := ⟨pb, 2, none⟩) e).trans h.c2,
    (World.frozen?_of_block (a := ⟨pb, 0, none⟩) e).trans h.f0, (World.frozen?_of_block (a := ⟨pb, 1, none⟩) e).trans h.f1, (World.frozen?_of_block (a := ⟨pb, 2, none⟩) e).trans h.f2,
    row_same h.own fun k hk => t.block k ((h.own.lt k hk).2) (fun x => h3 (x ▸ hk)) (h4 k hk), h.ne, h.ge⟩
structure BothAt (w : World) (B pb pp : Nat) (sv cv : Value) (b : Bk) (cs : List Cl) : Prop where
  bk : BookAt w B pb sv b
  pr : PerAt w B pp cv cs
  n1 : pb ≠ pp
  n2 : sv.ownBlock ≠ some pp
  n3 : cv.ownBlock ≠ some pb
  n4 : ∀ g, cv.ownBlock = some g → sv.ownBlock ≠ some g
theorem BothAt.below {w w' : World} {B pb pp : Nat} {sv cv : Value} {b : Bk} {cs : List Cl} (h : BothAt w B pb pp sv cv b cs) (hb : Below w.heap.size w w') : BothAt w' B pb pp sv cv b cs :=
  ⟨h.bk.below hb, h.pr.below hb, h.n1, h.n2, h.n3, h.n4⟩
/-- The book has turned. -/
theorem BothAt.book {w w' : World} {B pb pp : Nat} {sv cv sv' : Value} {b b' : Bk} {cs : List Cl} (h : BothAt w B pb pp sv cv b cs) (H : BookAt w' B pb sv' b') (T : Turned w w' pb sv) (F : Fresh w sv sv') : BothAt w' B pb pp sv' cv b' cs := by
  refine ⟨H, h.pr.turned T (fun e => h.n1 e.symm) h.n2 h.n3 h.n4, h.n1, fun e => ?_, h.n3, fun g hg e => ?_⟩
  · rcases F pp e with x | x
    · exact h.n2 x
    · have := h.pr.lt; omega
  · rcases F g e with x | x
    · exact h.n4 g hg x
    · have := (h.pr.own.lt g hg).2; omega
/-- The closes have turned. -/
theorem BothAt.closes {w w' : World} {B pb pp : Nat} {sv cv cv' : Value} {b : Bk} {cs cs' : List Cl} (h : BothAt w B pb pp sv cv b cs) (H : PerAt w' B pp cv' cs') (T : Turned w w' pp cv) (F : Fresh w cv cv') : BothAt w' B pb pp sv cv' b cs' := by
  refine ⟨book_apart h.bk T h.n1 h.n3 h.n2 (fun g hg e => h.n4 g e hg), H, h.n1, h.n2, fun e => ?_, fun g hg e => ?_⟩
  · rcases F pb e with x | x
    · exact h.n3 x
    · have := h.bk.lt; omega
  · rcases F g hg with x | x
    · exact h.n4 g x e
    · have := (h.bk.own.lt g e).2; omega
theorem per_below {w0 w w' : World} {B pp : Nat} {cv : Value} {cs : List Cl} (h : Turned w w' pp cv) (ha : PerAt w B pp cv cs) (hb : Below B w0 w) (hB : B ≤ w.heap.size) : Below B w0 w' :=
  hb.trans ⟨h.os, h.tape, h.output, h.size, fun k hk => h.block k (by omega) (by have := ha.ge; omega) (fun e => by have := (ha.own.lt k e).1; omega)⟩
theorem per_new (w : World) (B : Nat) (hB : B ≤ w.heap.size) : PerAt (w.alloc (.cells #[.slice none 0 0] 30)) B w.heap.size (.slice none 0 0) [] :=
  ⟨by simp, by simp, World.ownsRow_nil _ _ _ _, by simp [Value.ownBlock], hB⟩
end Go.Proofs.YtmldaiofghpfdaaGreatDoor
namespace Go.Proofs.YtmldaiofghpfdaaGreatDoor
open Go.RowKit
def bk0 : Bk := ⟨[], 0, 0⟩
theorem srt_one (x : Ev) : srt [x] = [x] := List.perm_singleton.1 (srt_perm [x])
theorem srt_nil : srt [] = [] := List.length_eq_zero_iff.1 (by rw [srt_len]; rfl)
theorem book_new (w : World) (B : Nat) (hB : B ≤ w.heap.size) : BookAt (w.alloc (.cells #[.slice none 0 0, .int .i64 0, .int .i64 0] 27)) B w.heap.size (.slice none 0 0) bk0 :=
  ⟨by simp, by simp [bk0], by simp [bk0], by simp, by simp, by simp, World.ownsRow_nil _ _ _ _, by simp [Value.ownBlock], hB⟩
end Go.Proofs.YtmldaiofghpfdaaGreatDoor
