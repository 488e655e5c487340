/- A book and closes, both in memory. The walks of slices.Clone at closes, and of (*period.Periods).Closed. What holds of closes, in plain mathematics. No walk. A book that is new; rows of one event, and of none. -/
import Derived.Test.YtppamojkhkdfpaaGreatDoorPerDo
import Derived.Laws.StructEq
import Derived.Test.YtppamojkhkdfpaaGreatDoorBnS
import Derived.Test.YtppamojkhkdfpaaGreatDoorBookAs
namespace Go.Proofs.YtppamojkhkdfpaaGreatDoor
open Go.RowKit Go.Maps
theorem book_apart {w w' : World} {B pb pp : Nat} {sv cv : Value} {b : Bk} (h : BookAt w B pb sv b) (t : Turned w w' pp cv) (h1 : pb ≠ pp) (h2 : cv.ownBlock ≠ some pb) (h3 : sv.ownBlock ≠ some pp) (h4 : ∀ g, sv.ownBlock = some g → cv.ownBlock ≠ some g) : BookAt w' B pb sv b := by
  have e := t.block pb h.lt h1 h2
  exact ⟨(World.cell?_of_block (a := ⟨pb, 0, none⟩) e).trans h.c0, (World.cell?_of_block (a := ⟨pb, 1, none⟩) e).trans h.c1, (World.cell?_of_block (a := ⟨pb, 2, none⟩) e).trans h.c2,
    (World.frozen?_of_block (a := ⟨pb, 0, none⟩) e).trans h.f0, (World.frozen?_of_block (a := ⟨pb, 1, none⟩) e).trans h.f1, (World.frozen?_of_block (a := ⟨pb, 2, none⟩) e).trans h.f2,
    row_same h.own fun k hk => t.block k ((h.own.lt k hk).2) (fun x => h3 (x ▸ hk)) (h4 k hk), h.ne, h.ge⟩
structure BothAt (w : World) (B pb pp : Nat) (sv cv : Value) (b : Bk) (cs : List Cl) : Prop where
  bk : BookAt w B pb sv b
  pr : PerAt w B pp cv cs
  n1 : pb ≠ pp
  n2 : sv.ownBlock ≠ some pp
  n3 : cv.ownBlock ≠ some pb
  n4 : ∀ g, cv.ownBlock = some g → sv.ownBlock ≠ some g
theorem BothAt.below {w w' : World} {B pb pp : Nat} {sv cv : Value} {b : Bk} {cs : List Cl} (h : BothAt w B pb pp sv cv b cs) (hb : Below w.heap.size w w') : BothAt w' B pb pp sv cv b cs :=
  ⟨h.bk.below hb, h.pr.below hb, h.n1, h.n2, h.n3, h.n4⟩
/-- The book has turned. -/
theorem BothAt.book {w w' : World} {B pb pp : Nat} {sv cv sv' : Value} {b b' : Bk} {cs : List Cl} (h : BothAt w B pb pp sv cv b cs) (H : BookAt w' B pb sv' b') (T : Turned w w' pb sv) (F : Fresh w sv sv') : BothAt w' B pb pp sv' cv b' cs := by
  refine ⟨H, h.pr.turned T (fun e => h.n1 e.symm) h.n2 h.n3 h.n4, h.n1, fun e => ?_, h.n3, fun g hg e => ?_⟩
  · rcases F pp e with x | x
    · exact h.n2 x
    · have := h.pr.lt; omega
  · rcases F g e with x | x
    · exact h.n4 g hg x
    · have := (h.pr.own.lt g hg).2; omega
/-- The closes have turned. -/
theorem BothAt.closes {w w' : World} {B pb pp : Nat} {sv cv cv' : Value} {b : Bk} {cs cs' : List Cl} (h : BothAt w B pb pp sv cv b cs) (H : PerAt w' B pp cv' cs') (T : Turned w w' pp cv) (F : Fresh w cv cv') : BothAt w' B pb pp sv cv' b cs' := by
  refine ⟨book_apart h.bk T h.n1 h.n3 h.n2 (fun g hg e => h.n4 g e hg), H, h.n1, h.n2, fun e => ?_, fun g hg e => ?_⟩
  · rcases F pb e with x | x
    · exact h.n3 x
    · have := h.bk.lt; omega
  · rcases F g hg with x | x
    · exact h.n4 g x e
    · have := (h.bk.own.lt g e).2; omega
theorem per_below {w0 w w' : World} {B pp : Nat} {cv : Value} {cs : List Cl} (h : Turned w w' pp cv) (ha : PerAt w B pp cv cs) (hb : Below B w0 w) (hB : B ≤ w.heap.size) : Below B w0 w' :=
  hb.trans ⟨h.os, h.tape, h.output, h.size, fun k hk => h.block k (by omega) (by have := ha.ge; omega) (fun e => by have := (ha.own.lt k e).1; omega)⟩
theorem per_new (w : World) (B : Nat) (hB : B ≤ w.heap.size) : PerAt (w.alloc (.cells #[.slice none 0 0] 30)) B w.heap.size (.slice none 0 0) [] :=
  ⟨by simp, by simp, World.ownsRow_nil _ _ _ _, by simp [Value.ownBlock], hB⟩
end Go.Proofs.YtppamojkhkdfpaaGreatDoor
namespace Go.Proofs.YtppamojkhkdfpaaGreatDoor
open Go.RowKit Go.Maps
theorem nil_cl (w : World) : (binOp BinOp.eql 28 (.slice none 0 0) (.slice none 0 0)).run Tryz.prog w = .ok (.bool true) w := by kernel_rfl
theorem some_cl (a : Addr) (n c : Nat) (w : World) : (binOp BinOp.eql 28 (.slice (some a) n c) (.slice none 0 0)).run Tryz.prog w = .ok (.bool false) w := by kernel_rfl
set_option maxHeartbeats 1000000 in
theorem clone_cl {B : Nat} (l : List Cl) (v : Value) (w : World) (h : w.ownsRow B 71 7 v l.length (l.flatMap clC)) (hl : l.length ≤ 1000) :
    Calls Tryz.prog 63 #[v] w fun r w' => ∃ v' : Value, r = .returned v' ∧ w'.ownsRow w.heap.size 71 7 v' l.length (l.flatMap clC) ∧ Below w.heap.size w w' := by
  obtain ⟨i0, hi, hz0, hz1, hz2⟩ := info_parts cl_info
  rcases own_form h with ⟨hv, hn, _⟩ | ⟨g, cap, hv, _, hgl, _⟩
  · subst hv
    have hz : l = [] := List.length_eq_zero_iff.1 hn
    subst hz
    go_enter Tryz.func63, Tryz.ntmps63
    have hne := nil_cl
    go_wp2
    go_ret
    exact ⟨_, rfl, World.ownsRow_nil _ _ _ _, Below.refl _ _⟩
  · subst hv
    have hcs := h.cells (g := g) rfl
    have HCS : Hid (∀ j u, (l.flatMap clC)[j]? = some u → w.cell? ((⟨g, 0, none⟩ : Addr).add j) = some u) := hcs
    have hfl := flat_len clC 7 clC_len l
    clear h hcs
    have hE : (w.alloc (.cells #[] 71)).ownsRow w.heap.size 71 7 (.slice (some ⟨w.heap.size, 0, none⟩) 0 0) 0 [] :=
      ⟨rfl, Or.inr ⟨w.heap.size, 0, #[], rfl, Nat.le_refl _, heap_alloc_new w _, Nat.le_refl _, Nat.zero_le _, rfl, rfl⟩⟩
    have HE : Hid _ := hE
    clear hE
    go_enter Tryz.func63, Tryz.ntmps63
    have hne := some_cl
    go_wp2_with (first
      | (at_builtin; refine wpList_append_own _ rfl _ _ 28 rfl w.heap.size 71 i0 clZ 7 56 Tryz.underlying28 hi hz0 hz1 hz2 rfl (by decide) _ _ _ rfl HE.out ⟨g, 0, none⟩ l.length cap (l.flatMap clC) rfl (by rw [hfl]) ?d1 ?d2 ?d3 ?d4 (by simp) ?_)
      | go_in)
    case d1 =>
      intro j u hj
      have hadd : (⟨g, 0, none⟩ : Addr).add j = ⟨g, j, none⟩ := by unfold Addr.add; split <;> simp_all
      have := HCS.out j u hj
      rw [hadd] at this
      exact this
    case d2 =>
      intro u e _ he
      exact clC_one e u he
    case d3 => unfold maxLen; omega
    case d4 => omega
    intro v' w3 hown3 hgr _
    have HB3 : Hid (Below w.heap.size w w3) := ((Below.refl w.heap.size w).alloc (Nat.le_refl _) _).grown hgr (by simp) (fun j hj => by simp [Value.ownBlock] at hj; omega)
    clear hgr
    go_wp2
    go_ret
    exact ⟨_, rfl, hown3, HB3.out⟩
set_option maxHeartbeats 1000000 in
theorem closed_any {w : World} {B pp : Nat} {cv : Value} {cs : List Cl} (hp : PerAt w B pp cv cs) (hl : cs.length ≤ 1000) :
    Calls Tryz.prog 21 #[.pointer (some ⟨pp, 0, none⟩)] w fun r w' => ∃ v' : Value, r = .returned v' ∧ w'.ownsRow w.heap.size 71 7 v' cs.length (cs.flatMap clC) ∧ Below w.heap.size w w' := by
  have hcl := clone_cl cs cv w hp.own hl
  have hc := hp.c0
  obtain ⟨ad, cap, hcv⟩ := own_lenN hp.own
  subst hcv
  clear hp
  go_enter Tryz.func21, Tryz.ntmps21
  go_wp2_with fail
  refine hcl.mono ?_
  rintro r w1 ⟨v, rfl, hown, hb⟩
  obtain ⟨ad1, cap1, hv⟩ := own_lenN hown
  subst hv
  go_wp2
  go_ret
  exact ⟨_, rfl, hown, hb⟩
end Go.Proofs.YtppamojkhkdfpaaGreatDoor
namespace Go.Proofs.YtppamojkhkdfpaaGreatDoor
open Go.RowKit
def PastOK (b : Bk) (t : Int) : Prop := ((srt (asOf b t)).map (·.id)).Nodup ∧ (∀ e ∈ srt (asOf b t), EvW e) ∧ (srt (asOf b t)).length ≤ 10000
structure CInv (b : Bk) (cs : List Cl) : Prop where
  asc : cs.Pairwise fun x y => x.month < y.month
  tur : cs.Pairwise fun x y => x.turn ≤ y.turn
  bd : ∀ c ∈ cs, 0 ≤ c.turn ∧ c.turn ≤ b.n
  sum : ∀ i (h : i < cs.length), sumC fig0 (cs.take (i + 1)) = untl (srt (asOf b cs[i].turn)) cs[i].month
  past : ∀ c ∈ cs, PastOK b c.turn
theorem cinv_zero (b : Bk) : CInv b [] := ⟨List.Pairwise.nil, List.Pairwise.nil, by simp, fun i h => absurd h (Nat.not_lt_zero _), by simp⟩
theorem cinv_act {b b' : Bk} {cs : List Cl} {x : Ac} (h : CInv b cs) (hi : Inv b) (hs : StepA b x b') : CInv b' cs := by
  have hn := step_n hs
  refine ⟨h.asc, h.tur, fun c hc => ?_, fun i hi' => ?_, fun c hc => ?_⟩
  · have := h.bd c hc; omega
  · rw [asOf_step hi hs _ (h.bd _ (List.getElem_mem hi')).2]
    exact h.sum i hi'
  · unfold PastOK
    rw [asOf_step hi hs _ (h.bd c hc).2]
    exact h.past c hc
theorem cov_no {cs : List Cl} {m : Int} (ha : cs.Pairwise fun x y => x.month < y.month) (h : cov cs m = false) : ∀ c ∈ cs, c.month < m := by
  rcases List.eq_nil_or_concat cs with rfl | ⟨a, l, rfl⟩
  · simp
  · rw [List.concat_eq_append] at ha h ⊢
    rw [cov_snoc] at h
    have hl : l.month < m := by simpa using h
    intro c hc
    rcases List.mem_append.1 hc with hc | hc
    · have := (List.pairwise_append.1 ha).2.2 c hc l (by simp)
      omega
    · rw [List.mem_singleton] at hc; rw [hc]; exact hl
theorem cinv_close {b : Bk} {cs cs' : List Cl} {m c : Int} {F : Fig} (h : CInv b cs) (hi : Inv b) (hd : DoesC b cs m c F cs') : CInv b cs' ∧ ∃ t, cs' = cs ++ t ∧ t.length ≤ 1 := by
  rcases hd with ⟨_, _, _, rfl⟩ | ⟨_, _, _, _, rfl⟩ | ⟨_, _, _, _, _, rfl⟩ | ⟨_, hc, _, _, hF, rfl⟩
  · exact ⟨h, [], by simp, by simp⟩
  · exact ⟨h, [], by simp, by simp⟩
  · exact ⟨h, [], by simp, by simp⟩
  · refine ⟨⟨?_, ?_, fun x hx => ?_, fun i hi' => ?_, fun x hx => ?_⟩, _, rfl, by simp⟩
    · refine List.pairwise_append.2 ⟨h.asc, List.pairwise_singleton .., fun x hx y hy => ?_⟩
      rw [List.mem_singleton] at hy
      subst hy
      exact cov_no h.asc hc x hx
    · refine List.pairwise_append.2 ⟨h.tur, List.pairwise_singleton .., fun x hx y hy => ?_⟩
      rw [List.mem_singleton] at hy
      subst hy
      exact (h.bd x hx).2
    · rcases List.mem_append.1 hx with hx | hx
      · exact h.bd x hx
      · rw [List.mem_singleton] at hx
        subst hx
        exact ⟨hi.n0, Int.le_refl _⟩
    · by_cases hlt : i < cs.length
      · rw [List.take_append_of_le_length (by omega), List.getElem_append_left hlt]
        exact h.sum i hlt
      · have e : i = cs.length := by
          rw [List.length_append] at hi'
          simp at hi'
          omega
        subst e
        rw [List.take_of_length_le (by simp), List.getElem_append_right (Nat.le_refl _)]
        simp only [Nat.sub_self, List.getElem_cons_zero]
        rw [hF]
        exact sum_close cs m b.n (untl_ok _ _)
    · rcases List.mem_append.1 hx with hx | hx
      · exact h.past x hx
      · rw [List.mem_singleton] at hx
        subst hx
        exact now_ok hi
end Go.Proofs.YtppamojkhkdfpaaGreatDoor
namespace Go.Proofs.YtppamojkhkdfpaaGreatDoor
open Go.RowKit
def bk0 : Bk := ⟨[], 0, 0⟩
theorem srt_one (x : Ev) : srt [x] = [x] := List.perm_singleton.1 (srt_perm [x])
theorem srt_nil : srt [] = [] := List.length_eq_zero_iff.1 (by rw [srt_len]; rfl)
theorem book_new (w : World) (B : Nat) (hB : B ≤ w.heap.size) : BookAt (w.alloc (.cells #[.slice none 0 0, .int .i64 0, .int .i64 0] 27)) B w.heap.size (.slice none 0 0) bk0 :=
  ⟨by simp, by simp [bk0], by simp [bk0], by simp, by simp, by simp, World.ownsRow_nil _ _ _ _, by simp [Value.ownBlock], hB⟩
end Go.Proofs.YtppamojkhkdfpaaGreatDoor
