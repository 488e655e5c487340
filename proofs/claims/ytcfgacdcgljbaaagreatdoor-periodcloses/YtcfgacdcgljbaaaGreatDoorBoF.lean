/- A book and closes, both in memory. Two books and two rows of closes, apart in memory. No walk. -/
import Derived.Test.YtcfgacdcgljbaaaGreatDoorBoD
import Derived.Test.YtcfgacdcgljbaaaGreatDoorBnK
import Derived.Test.YtcfgacdcgljbaaaGreatDoorBoE
namespace Go.Proofs.YtcfgacdcgljbaaaGreatDoor
open Go.RowKit Go.Maps
theorem book_apart {w w' : World} {B pb pp : Nat} {sv cv : Value} {b : Bk} (h : BookAt w B pb sv b) (t : Turned w w' pp cv) (h1 : pb ≠ pp) (h2 : cv.ownBlock ≠ some pb) (h3 : sv.ownBlock ≠ some pp) (h4 : ∀ g, sv.ownBlock = some g → cv.ownBlock ≠ some g) : BookAt w' B pb sv b := by
  have e := t.block pb h.lt h1 h2
  exact ⟨(World.cell?_of_block (a := ⟨pb, 0, none⟩) e).trans h.c0, (World.cell?_of_block (a := ⟨pb, 1, none⟩) e).trans h.c1, (World.cell?_of_block (a := ⟨pb, 2, none⟩) e).trans h.c2,
    (World.frozen?_of_block (a := ⟨pb, 0, none⟩) e).trans h.f0, (World.frozen?_of_block (a := ⟨pb, 1, none⟩) e).trans h.f1, (World.frozen?_of_block (a := ⟨pb, 2, none⟩) e).trans h.f2,
    row_same h.own fun k hk => t.block k ((h.own.lt k hk).2) (fun x => h3 (x ▸ hk)) (h4 k hk), h.ne, h.ge⟩
structure BothAt (w : World) (B pb pp : Nat) (sv cv : Value) (b : Bk) (cs : List Cl) : Prop where
  bk : BookAt w B pb sv b
  pr : PerAt w B pp cv cs
  n1 : pb ≠ pp
  n2 : sv.ownBlock ≠ some pp
  n3 : cv.ownBlock ≠ some pb
  n4 : ∀ g, cv.ownBlock = some g → sv.ownBlock ≠ some g
theorem BothAt.below {w w' : World} {B pb pp : Nat} {sv cv : Value} {b : Bk} {cs : List Cl} (h : BothAt w B pb pp sv cv b cs) (hb : Below w.heap.size w w') : BothAt w' B pb pp sv cv b cs :=
  ⟨h.bk.below hb, h.pr.below hb, h.n1, h.n2, h.n3, h.n4⟩
/-- The book has turned. -/
theorem BothAt.book {w w' : World} {B pb pp : Nat} {sv cv sv' : Value} {b b' : Bk} {cs : List Cl} (h : BothAt w B pb pp sv cv b cs) (H : BookAt w' B pb sv' b') (T : Turned w w' pb sv) (F : Fresh w sv sv') : BothAt w' B pb pp sv' cv b' cs := by
  refine ⟨H, h.pr.turned T (fun e => h.n1 e.symm) h.n2 h.n3 h.n4, h.n1, fun e => ?_, h.n3, fun g hg e => ?_⟩
  · rcases F pp e with x | x
    · exact h.n2 x
    · have := h.pr.lt; omega
  · rcases F g e with x | x
    · exact h.n4 g hg x
    · have := (h.pr.own.lt g hg).2; omega
/-- The closes have turned. -/
theorem BothAt.closes {w w' : World} {B pb pp : Nat} {sv cv cv' : Value} {b : Bk} {cs cs' : List Cl} (h : BothAt w B pb pp sv cv b cs) (H : PerAt w' B pp cv' cs') (T : Turned w w' pp cv) (F : Fresh w cv cv') : BothAt w' B pb pp sv cv' b cs' := by
  refine ⟨book_apart h.bk T h.n1 h.n3 h.n2 (fun g hg e => h.n4 g e hg), H, h.n1, h.n2, fun e => ?_, fun g hg e => ?_⟩
  · rcases F pb e with x | x
    · exact h.n3 x
    · have := h.bk.lt; omega
  · rcases F g hg with x | x
    · exact h.n4 g x e
    · have := (h.bk.own.lt g e).2; omega
theorem per_below {w0 w w' : World} {B pp : Nat} {cv : Value} {cs : List Cl} (h : Turned w w' pp cv) (ha : PerAt w B pp cv cs) (hb : Below B w0 w) (hB : B ≤ w.heap.size) : Below B w0 w' :=
  hb.trans ⟨h.os, h.tape, h.output, h.size, fun k hk => h.block k (by omega) (by have := ha.ge; omega) (fun e => by have := (ha.own.lt k e).1; omega)⟩
theorem per_new (w : World) (B : Nat) (hB : B ≤ w.heap.size) : PerAt (w.alloc (.cells #[.slice none 0 0] 30)) B w.heap.size (.slice none 0 0) [] :=
  ⟨by simp, by simp, World.ownsRow_nil _ _ _ _, by simp [Value.ownBlock], hB⟩
end Go.Proofs.YtcfgacdcgljbaaaGreatDoor
namespace Go.Proofs.YtcfgacdcgljbaaaGreatDoor
open Go.RowKit Go.Maps
/-- Two things with rows of their own are apart. -/
structure Apt (pa : Nat) (va : Value) (pb : Nat) (vb : Value) : Prop where
  ne : pa ≠ pb
  a : va.ownBlock ≠ some pb
  b : vb.ownBlock ≠ some pa
  r : ∀ k, va.ownBlock = some k → vb.ownBlock ≠ some k
theorem Apt.symm {pa pb : Nat} {va vb : Value} (h : Apt pa va pb vb) : Apt pb vb pa va := ⟨fun e => h.ne e.symm, h.b, h.a, fun k hk e => h.r k e hk⟩
theorem Apt.fresh {w : World} {pa pb : Nat} {va va' vb : Value} (h : Apt pa va pb vb) (f : Fresh w va va') (h1 : pb < w.heap.size) (h2 : ∀ k, vb.ownBlock = some k → k < w.heap.size) : Apt pa va' pb vb :=
  ⟨h.ne, fun e => by
    rcases f pb e with x | x
    · exact h.a x
    · omega, h.b, fun k hk e => by
    rcases f k hk with x | x
    · exact h.r k x e
    · have := h2 k e; omega⟩
theorem RAt.apart {w w' : World} {B pb pp : Nat} {sv cv : Value} {b : Bk} (h : RAt w B pb sv b) (t : Turned w w' pp cv) (a : Apt pb sv pp cv) : RAt w' B pb sv b := by
  have e := t.block pb h.lt a.ne a.b
  exact ⟨(World.cell?_of_block (a := ⟨pb, 0, none⟩) e).trans h.c0, (World.cell?_of_block (a := ⟨pb, 1, none⟩) e).trans h.c1, (World.cell?_of_block (a := ⟨pb, 2, none⟩) e).trans h.c2,
    (World.frozen?_of_block (a := ⟨pb, 0, none⟩) e).trans h.f0, (World.frozen?_of_block (a := ⟨pb, 1, none⟩) e).trans h.f1, (World.frozen?_of_block (a := ⟨pb, 2, none⟩) e).trans h.f2,
    row_same h.own fun k hk => t.block k ((h.own.lt k hk).2) (fun x => a.a (x ▸ hk)) (a.r k hk), h.ne, h.ge⟩
theorem Two.apart {w w' : World} {B p1 p2 pp : Nat} {v1 v2 cv : Value} {b1 b2 : Bk} (h : Two w B p1 v1 b1 p2 v2 b2) (t : Turned w w' pp cv) (a1 : Apt p1 v1 pp cv) (a2 : Apt p2 v2 pp cv) : Two w' B p1 v1 b1 p2 v2 b2 :=
  ⟨book_apart h.book t a1.ne a1.b a1.a a1.r, h.ref.apart t a2, h.ne, h.n1, h.n2, h.n3⟩
theorem PerAt.kept {w w' : World} {B pp : Nat} {cv : Value} {cs : List Cl} (h : PerAt w B pp cv cs) (e : w'.heap[pp]? = w.heap[pp]?) (eo : ∀ k, cv.ownBlock = some k → w'.heap[k]? = w.heap[k]?) : PerAt w' B pp cv cs :=
  ⟨(World.cell?_of_block (a := ⟨pp, 0, none⟩) e).trans h.c0, (World.frozen?_of_block (a := ⟨pp, 0, none⟩) e).trans h.f0, row_same h.own eo, h.ne, h.ge⟩
/-- Two books, closes, and the document's own closes. -/
structure Four (w : World) (B p1 p2 pp pq : Nat) (v1 v2 cv cq : Value) (b : Bk) (cs ds : List Cl) (T : Fig) : Prop where
  two : Two w B p1 v1 b p2 v2 b
  per : PerAt w B pp cv cs
  rper : RPerAt w B pq cq ds T
  a1 : Apt p1 v1 pp cv
  a2 : Apt p2 v2 pp cv
  a3 : Apt p1 v1 pq cq
  a4 : Apt p2 v2 pq cq
  a5 : Apt pp cv pq cq
section
variable {w w' : World} {B p1 p2 pp pq : Nat} {v1 v2 cv cq : Value} {b : Bk} {cs ds : List Cl} {T : Fig}
theorem Four.below (h : Four w B p1 p2 pp pq v1 v2 cv cq b cs ds T) (hb : Below w.heap.size w w') : Four w' B p1 p2 pp pq v1 v2 cv cq b cs ds T :=
  ⟨h.two.below hb, h.per.below hb, h.rper.below hb, h.a1, h.a2, h.a3, h.a4, h.a5⟩
/-- A deed was done to both books. -/
theorem Four.acts {v1' v2' : Value} {b' : Bk} (h : Four w B p1 p2 pp pq v1 v2 cv cq b cs ds T) (ht : Two w' B p1 v1' b' p2 v2' b') (hg : Guest w w' p1 p2 v1 v2 v1' v2') : Four w' B p1 p2 pp pq v1' v2' cv cq b' cs ds T := by
  have kp := hg.keep pp h.per.lt (fun e => h.a1.ne e.symm) (fun e => h.a2.ne e.symm) h.a1.a h.a2.a
  have kq := hg.keep pq h.rper.lt (fun e => h.a3.ne e.symm) (fun e => h.a4.ne e.symm) h.a3.a h.a4.a
  have kc : ∀ k, cv.ownBlock = some k → w'.heap[k]? = w.heap[k]? ∧ v1'.ownBlock ≠ some k ∧ v2'.ownBlock ≠ some k := fun k hk => hg.keep k (h.per.own.lt k hk).2 (fun e => h.a1.b (e ▸ hk)) (fun e => h.a2.b (e ▸ hk)) (fun e => h.a1.r k e hk) (fun e => h.a2.r k e hk)
  have kd : ∀ k, cq.ownBlock = some k → w'.heap[k]? = w.heap[k]? ∧ v1'.ownBlock ≠ some k ∧ v2'.ownBlock ≠ some k := fun k hk => hg.keep k (h.rper.own.lt k hk).2 (fun e => h.a3.b (e ▸ hk)) (fun e => h.a4.b (e ▸ hk)) (fun e => h.a3.r k e hk) (fun e => h.a4.r k e hk)
  exact ⟨ht, h.per.kept kp.1 fun k hk => (kc k hk).1, h.rper.same kq.1 fun k hk => (kd k hk).1,
    ⟨h.a1.ne, kp.2.1, h.a1.b, fun k hk e => (kc k e).2.1 hk⟩, ⟨h.a2.ne, kp.2.2, h.a2.b, fun k hk e => (kc k e).2.2 hk⟩,
    ⟨h.a3.ne, kq.2.1, h.a3.b, fun k hk e => (kd k e).2.1 hk⟩, ⟨h.a4.ne, kq.2.2, h.a4.b, fun k hk e => (kd k e).2.2 hk⟩, h.a5⟩
/-- The document's own closes have turned. -/
theorem Four.rclose {cq' : Value} {ds' : List Cl} {T' : Fig} (h : Four w B p1 p2 pp pq v1 v2 cv cq b cs ds T) (hr : RPerAt w' B pq cq' ds' T') (t : Turned w w' pq cq) (f : Fresh w cq cq') : Four w' B p1 p2 pp pq v1 v2 cv cq' b cs ds' T' :=
  ⟨h.two.apart t h.a3 h.a4, h.per.turned t h.a5.ne h.a5.b h.a5.a h.a5.r, hr, h.a1, h.a2,
    (h.a3.symm.fresh f h.two.book.lt fun k hk => (h.two.book.block k hk).2).symm, (h.a4.symm.fresh f h.two.ref.lt fun k hk => (h.two.ref.block k hk).2).symm, (h.a5.symm.fresh f h.per.lt fun k hk => (h.per.own.lt k hk).2).symm⟩
/-- The closes have turned. -/
theorem Four.close {cv' : Value} {cs' : List Cl} (h : Four w B p1 p2 pp pq v1 v2 cv cq b cs ds T) (hr : PerAt w' B pp cv' cs') (t : Turned w w' pp cv) (f : Fresh w cv cv') : Four w' B p1 p2 pp pq v1 v2 cv' cq b cs' ds T :=
  ⟨h.two.apart t h.a1 h.a2, hr, h.rper.turned t (fun e => h.a5.ne e.symm) h.a5.a h.a5.b (fun g hg e => h.a5.r g e hg), (h.a1.symm.fresh f h.two.book.lt fun k hk => (h.two.book.block k hk).2).symm, (h.a2.symm.fresh f h.two.ref.lt fun k hk => (h.two.ref.block k hk).2).symm,
    h.a3, h.a4, h.a5.fresh f h.rper.lt fun k hk => (h.rper.own.lt k hk).2⟩
end
theorem below_at {N : Nat} {w0 w w' : World} {p : Nat} {v : Value} (hb : Below N w0 w) (t : Turned w w' p v) (hN : N ≤ w.heap.size) (hp : N ≤ p) (hv : ∀ k, v.ownBlock = some k → N ≤ k) : Below N w0 w' :=
  hb.trans ⟨t.os, t.tape, t.output, t.size, fun k hk => t.block k (by omega) (by omega) (fun e => by have := hv k e; omega)⟩
/-- Both closes do the same. -/
theorem does_same {b : Bk} {cs cs' ds' : List Cl} {T' F F' : Fig} {m c c' : Int} (h : DoesC b cs m c F cs') (h' : RDoes b cs (sumC fig0 cs) m c' F' ds' T') : c = c' ∧ F = F' ∧ cs' = ds' ∧ T' = sumC fig0 cs' := by
  rcases h with ⟨h1, rfl, rfl, rfl⟩ | ⟨h1, h2, rfl, rfl, rfl⟩ | ⟨h1, h2, h3, rfl, rfl, rfl⟩ | ⟨h1, h2, h3, rfl, hF, hc⟩ <;>
    rcases h' with ⟨k1, rfl, rfl, rfl, rfl⟩ | ⟨k1, k2, rfl, rfl, rfl, rfl⟩ | ⟨k1, k2, k3, rfl, rfl, rfl, rfl⟩ | ⟨k1, k2, k3, rfl, kF, kc, rfl⟩ <;>
    first
      | exact ⟨rfl, rfl, rfl, rfl⟩
      | (exfalso; omega)
      | (exfalso; simp_all; done)
      | skip
  have e : F = F' := by rw [hF, kF, unp_is cs (untl_ok _ _)]
  subst e
  refine ⟨rfl, rfl, by rw [hc, kc], ?_⟩
  rw [hc, hF]
  exact (sum_close cs m b.n (untl_ok _ _)).symm
end Go.Proofs.YtcfgacdcgljbaaaGreatDoor
