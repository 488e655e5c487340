/- A house in memory. No walk. What the library's variables hold, below all houses. No walk. -/
import Derived.Test.YtdkhohlhdiekmaaGreatDoorHsM
import Derived.Test.YtdkhohlhdiekmaaGreatDoorBnJr
import Derived.Test.YtdkhohlhdiekmaaGreatDoorBnGlob
namespace Go.Proofs.YtdkhohlhdiekmaaGreatDoor
open Go.RowKit
/-- A house lies in block ph: its book, its closes, its journal, and how many lines that has. -/
structure HsAt (w : World) (B ph : Nat) (sv cv : Value) (h : Hs) : Prop where
  bk : BookAt w B ph sv h.bk
  pr : PerAt w B ph cv h.cs
  ap : ∀ g, cv.ownBlock = some g → sv.ownBlock ≠ some g
  cj : w.cell? ⟨ph, 4, none⟩ = some (.string (ba (framesL 0 h.ls)))
  fj : w.frozen? ⟨ph, 4, none⟩ = false
  cn : w.cell? ⟨ph, 5, none⟩ = some (.int .i64 (h.ls.length : Nat))
  fn : w.frozen? ⟨ph, 5, none⟩ = false
/-- A house's own blocks. -/
def Mine (ph : Nat) (sv cv : Value) (k : Nat) : Prop := k = ph ∨ sv.ownBlock = some k ∨ cv.ownBlock = some k
/-- Nothing has turned but a house's own blocks. -/
structure HTurn (w w' : World) (ph : Nat) (sv cv sv' cv' : Value) : Prop where
  os : w'.os = w.os
  tape : w'.tape = w.tape
  output : w'.output = w.output
  size : w.heap.size ≤ w'.heap.size
  block : ∀ k, k < w.heap.size → ¬ Mine ph sv cv k → w'.heap[k]? = w.heap[k]?
  fresh : ∀ k, Mine ph sv' cv' k → Mine ph sv cv k ∨ w.heap.size ≤ k
section
variable {w w' w'' w0 : World} {B ph : Nat} {sv cv sv' cv' sv'' cv'' : Value} {h : Hs}
theorem HsAt.lt (a : HsAt w B ph sv cv h) : ph < w.heap.size := a.bk.lt
theorem HsAt.mine (a : HsAt w B ph sv cv h) {k : Nat} (hk : Mine ph sv cv k) : B ≤ k ∧ k < w.heap.size := by
  rcases hk with rfl | hk | hk
  · exact ⟨a.bk.ge, a.lt⟩
  · exact a.bk.block k hk
  · exact a.pr.own.lt k hk
theorem HsAt.same (a : HsAt w B ph sv cv h) (e : ∀ k, Mine ph sv cv k → w'.heap[k]? = w.heap[k]?) : HsAt w' B ph sv cv h := by
  have ep := e ph (Or.inl rfl)
  have c (o : Nat) : w'.cell? ⟨ph, o, none⟩ = w.cell? ⟨ph, o, none⟩ := World.cell?_of_block (a := ⟨ph, o, none⟩) ep
  have f (o : Nat) : w'.frozen? ⟨ph, o, none⟩ = w.frozen? ⟨ph, o, none⟩ := World.frozen?_of_block (a := ⟨ph, o, none⟩) ep
  exact ⟨⟨(c 0).trans a.bk.c0, (c 1).trans a.bk.c1, (c 2).trans a.bk.c2, (f 0).trans a.bk.f0, (f 1).trans a.bk.f1, (f 2).trans a.bk.f2, row_same a.bk.own fun k hk => e k (Or.inr (Or.inl hk)), a.bk.ne, a.bk.ge⟩,
    ⟨(c 3).trans a.pr.c0, (f 3).trans a.pr.f0, row_same a.pr.own fun k hk => e k (Or.inr (Or.inr hk)), a.pr.ne, a.pr.ge⟩, a.ap, (c 4).trans a.cj, (f 4).trans a.fj, (c 5).trans a.cn, (f 5).trans a.fn⟩
theorem HsAt.below (a : HsAt w B ph sv cv h) (hb : Below w.heap.size w w') : HsAt w' B ph sv cv h := a.same fun k hk => hb.block k (a.mine hk).2
theorem HTurn.of_below (hb : Below w.heap.size w w') : HTurn w w' ph sv cv sv cv := ⟨hb.os, hb.tape, hb.output, hb.size, fun k hk _ => hb.block k hk, fun _ hk => Or.inl hk⟩
theorem HTurn.trans (t : HTurn w w' ph sv cv sv' cv') (t' : HTurn w' w'' ph sv' cv' sv'' cv'') : HTurn w w'' ph sv cv sv'' cv'' :=
  ⟨t'.os.trans t.os, t'.tape.trans t.tape, t'.output.trans t.output, Nat.le_trans t.size t'.size,
    fun k hk hn => (t'.block k (Nat.lt_of_lt_of_le hk t.size) (fun hm => by
      rcases t.fresh k hm with x | x
      · exact hn x
      · omega)).trans (t.block k hk hn),
    fun k hk => by
      rcases t'.fresh k hk with x | x
      · exact t.fresh k x
      · exact Or.inr (Nat.le_trans t.size x)⟩
/-- What lies below a house stays. -/
theorem HTurn.below (t : HTurn w w' ph sv cv sv' cv') (a : HsAt w B ph sv cv h) (hb : Below B w0 w) (hB : B ≤ w.heap.size) : Below B w0 w' :=
  hb.trans ⟨t.os, t.tape, t.output, t.size, fun k hk => t.block k (by omega) (fun hm => by have := (a.mine hm).1; omega)⟩
/-- The book has turned. -/
theorem HsAt.book {b' : Bk} (a : HsAt w B ph sv cv h) (H : BookAt w' B ph sv' b') (T : TurnI 0 3 w w' ph sv) (F : Fresh w sv sv') : HsAt w' B ph sv' cv ⟨b', h.cs, h.ls⟩ ∧ HTurn w w' ph sv cv sv' cv := by
  have r := fun o ho => T.rest a.lt a.bk.ne o ho
  have f := fun o => T.frz a.lt a.bk.ne o
  refine ⟨⟨H, ⟨(r 3 (by omega)).trans a.pr.c0, (f 3).trans a.pr.f0, ?_, a.pr.ne, a.pr.ge⟩, ?_, (r 4 (by omega)).trans a.cj, (f 4).trans a.fj, (r 5 (by omega)).trans a.cn, (f 5).trans a.fn⟩, ?_⟩
  · exact row_same a.pr.own fun k hk => T.block k (a.pr.own.lt k hk).2 (fun e => a.pr.ne (e ▸ hk)) (a.ap k hk)
  · intro g hg e
    rcases F g e with x | x
    · exact a.ap g hg x
    · have := (a.pr.own.lt g hg).2; omega
  · refine ⟨T.os, T.tape, T.output, T.size, fun k hk hn => T.block k hk (fun e => hn (Or.inl e)) (fun e => hn (Or.inr (Or.inl e))), fun k hk => ?_⟩
    rcases hk with e | e | e
    · exact Or.inl (Or.inl e)
    · rcases F k e with x | x
      · exact Or.inl (Or.inr (Or.inl x))
      · exact Or.inr x
    · exact Or.inl (Or.inr (Or.inr e))
/-- The closes have turned. -/
theorem HsAt.closes {cs' : List Cl} (a : HsAt w B ph sv cv h) (H : PerAt w' B ph cv' cs') (T : TurnI 3 (3 + 1) w w' ph cv) (F : Fresh w cv cv') : HsAt w' B ph sv cv' ⟨h.bk, cs', h.ls⟩ ∧ HTurn w w' ph sv cv sv cv' := by
  have r := fun o ho => T.rest a.lt a.pr.ne o ho
  have f := fun o => T.frz a.lt a.pr.ne o
  refine ⟨⟨⟨(r 0 (by omega)).trans a.bk.c0, (r 1 (by omega)).trans a.bk.c1, (r 2 (by omega)).trans a.bk.c2, (f 0).trans a.bk.f0, (f 1).trans a.bk.f1, (f 2).trans a.bk.f2, ?_, a.bk.ne, a.bk.ge⟩, H, ?_, (r 4 (by omega)).trans a.cj, (f 4).trans a.fj, (r 5 (by omega)).trans a.cn, (f 5).trans a.fn⟩, ?_⟩
  · exact row_same a.bk.own fun k hk => T.block k (a.bk.own.lt k hk).2 (fun e => a.bk.ne (e ▸ hk)) (fun e => a.ap k e hk)
  · intro g hg e
    rcases F g hg with x | x
    · exact a.ap g x e
    · have := (a.bk.own.lt g e).2; omega
  · refine ⟨T.os, T.tape, T.output, T.size, fun k hk hn => T.block k hk (fun e => hn (Or.inl e)) (fun e => hn (Or.inr (Or.inr e))), fun k hk => ?_⟩
    rcases hk with e | e | e
    · exact Or.inl (Or.inl e)
    · exact Or.inl (Or.inr (Or.inl e))
    · rcases F k e with x | x
      · exact Or.inl (Or.inr (Or.inr x))
      · exact Or.inr x
/-- A line is written into the journal. -/
theorem HsAt.jot (a : HsAt w B ph sv cv h) (l : List UInt8) :
    HsAt ((w.setCell ⟨ph, 4, none⟩ (.string (ba (framesL 0 (h.ls ++ [l]))))).setCell ⟨ph, 5, none⟩ (.int .i64 ((h.ls.length : Int) + 1))) B ph sv cv ⟨h.bk, h.cs, h.ls ++ [l]⟩
      ∧ HTurn w ((w.setCell ⟨ph, 4, none⟩ (.string (ba (framesL 0 (h.ls ++ [l]))))).setCell ⟨ph, 5, none⟩ (.int .i64 ((h.ls.length : Int) + 1))) ph sv cv sv cv := by
  have o (k v v' : _) (h4 : k ≠ 4) (h5 : k ≠ 5) : ((w.setCell ⟨ph, 4, none⟩ v).setCell ⟨ph, 5, none⟩ v').cell? ⟨ph, k, none⟩ = w.cell? ⟨ph, k, none⟩ := by
    rw [set_other (by intro e; injection e with _ e2; omega), set_other (by intro e; injection e with _ e2; omega)]
  have b (k : Nat) (v v' : Value) (hk : k ≠ ph) : ((w.setCell ⟨ph, 4, none⟩ v).setCell ⟨ph, 5, none⟩ v').heap[k]? = w.heap[k]? := (Below.heap_setCell _ _ _ _ hk).trans (Below.heap_setCell _ _ _ _ hk)
  have n1 : ∀ k, sv.ownBlock = some k → k ≠ ph := fun k hk e => a.bk.ne (e ▸ hk)
  have n2 : ∀ k, cv.ownBlock = some k → k ≠ ph := fun k hk e => a.pr.ne (e ▸ hk)
  refine ⟨⟨⟨(o 0 _ _ (by omega) (by omega)).trans a.bk.c0, (o 1 _ _ (by omega) (by omega)).trans a.bk.c1, (o 2 _ _ (by omega) (by omega)).trans a.bk.c2, set_frz.trans (set_frz.trans a.bk.f0), set_frz.trans (set_frz.trans a.bk.f1), set_frz.trans (set_frz.trans a.bk.f2), row_same a.bk.own fun k hk => b k _ _ (n1 k hk), a.bk.ne, a.bk.ge⟩,
    ⟨(o 3 _ _ (by omega) (by omega)).trans a.pr.c0, set_frz.trans (set_frz.trans a.pr.f0), row_same a.pr.own fun k hk => b k _ _ (n2 k hk), a.pr.ne, a.pr.ge⟩, a.ap, ?_, set_frz.trans (set_frz.trans a.fj), ?_, set_frz.trans (set_frz.trans a.fn)⟩, ?_⟩
  · rw [set_other (by intro e; injection e with _ e2; omega)]
    exact set_same a.cj
  · have e : (((h.ls ++ [l]).length : Nat) : Int) = (h.ls.length : Int) + 1 := by simp
    rw [e]
    exact set_same ((set_other (by intro e; injection e with _ e2; omega)).trans a.cn)
  · exact ⟨rfl, rfl, rfl, by simp [World.setCell], fun k _ hn => b k _ _ (fun e => hn (Or.inl e)), fun _ hk => Or.inl hk⟩
end
theorem own_mono {w : World} {B B' : Nat} {T : TypeId} {m n : Nat} {v : Value} {xs : List Value} (h : w.ownsRow B T m v n xs) (hB : B' ≤ B) : w.ownsRow B' T m v n xs := by
  refine ⟨h.1, ?_⟩
  rcases h.2 with x | ⟨g, cap, cur, e, hg, r⟩
  · exact Or.inl x
  · exact Or.inr ⟨g, cap, cur, e, Nat.le_trans hB hg, r⟩
/-- Two houses apart. -/
structure TwoH (w : World) (B p1 p2 : Nat) (s1 c1 s2 c2 : Value) (h1 h2 : Hs) : Prop where
  a1 : HsAt w B p1 s1 c1 h1
  a2 : HsAt w B p2 s2 c2 h2
  ap : ∀ k, Mine p1 s1 c1 k → ¬ Mine p2 s2 c2 k
section
variable {w w' : World} {B p1 p2 : Nat} {s1 c1 s2 c2 s1' c1' s2' c2' : Value} {h1 h2 h1' h2' : Hs}
theorem TwoH.below (t : TwoH w B p1 p2 s1 c1 s2 c2 h1 h2) (hb : Below w.heap.size w w') : TwoH w' B p1 p2 s1 c1 s2 c2 h1 h2 := ⟨t.a1.below hb, t.a2.below hb, t.ap⟩
theorem TwoH.first (t : TwoH w B p1 p2 s1 c1 s2 c2 h1 h2) (a : HsAt w' B p1 s1' c1' h1') (u : HTurn w w' p1 s1 c1 s1' c1') : TwoH w' B p1 p2 s1' c1' s2 c2 h1' h2 :=
  ⟨a, t.a2.same fun k hk => u.block k (t.a2.mine hk).2 (fun hm => t.ap k hm hk), fun k hk hm => by
    rcases u.fresh k hk with x | x
    · exact t.ap k x hm
    · have := (t.a2.mine hm).2; omega⟩
theorem TwoH.second (t : TwoH w B p1 p2 s1 c1 s2 c2 h1 h2) (a : HsAt w' B p2 s2' c2' h2') (u : HTurn w w' p2 s2 c2 s2' c2') : TwoH w' B p1 p2 s1 c1 s2' c2' h1 h2' :=
  ⟨t.a1.same fun k hk => u.block k (t.a1.mine hk).2 (fun hm => t.ap k hk hm), a, fun k hk hm => by
    rcases u.fresh k hm with x | x
    · exact t.ap k hk x
    · have := (t.a1.mine hk).2; omega⟩
theorem HsAt.mono {B' : Nat} (a : HsAt w B p1 s1 c1 h1) (hB : B' ≤ B) : HsAt w B' p1 s1 c1 h1 :=
  ⟨⟨a.bk.c0, a.bk.c1, a.bk.c2, a.bk.f0, a.bk.f1, a.bk.f2, own_mono a.bk.own hB, a.bk.ne, Nat.le_trans hB a.bk.ge⟩, ⟨a.pr.c0, a.pr.f0, own_mono a.pr.own hB, a.pr.ne, Nat.le_trans hB a.pr.ge⟩, a.ap, a.cj, a.fj, a.cn, a.fn⟩
/-- One house, and one that was made later. -/
theorem TwoH.of_later (a1 : HsAt w B p1 s1 c1 h1) (a2 : HsAt w' w.heap.size p2 s2 c2 h2) (hb : Below w.heap.size w w') (hB : B ≤ w.heap.size) : TwoH w' B p1 p2 s1 c1 s2 c2 h1 h2 :=
  ⟨a1.below hb, a2.mono hB,
    fun k hk hm => by
      have x1 := (a1.mine hk).2
      have x2 := (a2.mine hm).1
      omega⟩
theorem house_new (w : World) (B : Nat) (hB : B ≤ w.heap.size) : HsAt (w.alloc (.cells #[.slice none 0 0, .int .i64 0, .int .i64 0, .slice none 0 0, .string ⟨#[]⟩, .int .i64 0] 31)) B w.heap.size (.slice none 0 0) (.slice none 0 0) hs0 :=
  ⟨⟨by simp, by simp [hs0, bk0], by simp [hs0, bk0], by simp, by simp, by simp, World.ownsRow_nil _ _ _ _, by simp [Value.ownBlock], hB⟩, ⟨by simp, by simp, World.ownsRow_nil _ _ _ _, by simp [Value.ownBlock], hB⟩, by simp [Value.ownBlock], by simp [hs0, framesL, ba], by simp, by simp [hs0], by simp⟩
end
end Go.Proofs.YtdkhohlhdiekmaaGreatDoor
namespace Go.Proofs.YtdkhohlhdiekmaaGreatDoor
open Go.RowKit
structure GlobH (w : World) : Prop where
  ev : GlobE w
theorem GlobH.below {w w' : World} (h : GlobH w) (hb : Below w.heap.size w w') : GlobH w' := ⟨h.ev.below hb⟩
/-- It was so ahead of all houses, and what was there stays. -/
def Ground (B : Nat) (w : World) : Prop := ∃ w0, GlobH w0 ∧ w0.heap.size ≤ B ∧ Below w0.heap.size w0 w
section
variable {w w' : World} {B ph : Nat} {sv cv sv' cv' : Value} {h : Hs}
theorem Ground.glob (g : Ground B w) : GlobH w := by
  obtain ⟨w0, h0, _, hb⟩ := g
  exact h0.below hb
theorem Ground.below (g : Ground B w) (hb : Below w.heap.size w w') : Ground B w' := by
  obtain ⟨w0, h0, h1, hb0⟩ := g
  exact ⟨w0, h0, h1, hb0.trans (hb.mono hb0.size)⟩
theorem Ground.turn (g : Ground B w) (a : HsAt w B ph sv cv h) (t : HTurn w w' ph sv cv sv' cv') : Ground B w' := by
  obtain ⟨w0, h0, h1, hb0⟩ := g
  exact ⟨w0, h0, h1, t.below (a.mono h1) hb0 hb0.size⟩
theorem Ground.of (g : GlobH w) : Ground w.heap.size w := ⟨w, g, Nat.le_refl _, Below.refl _ _⟩
theorem Ground.up {B' : Nat} (g : Ground B w) (hB : B ≤ B') : Ground B' w := by
  obtain ⟨w0, h0, h1, hb0⟩ := g
  exact ⟨w0, h0, Nat.le_trans h1 hB, hb0⟩
end
end Go.Proofs.YtdkhohlhdiekmaaGreatDoor
