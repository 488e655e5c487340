/- A slice that owns its row, of elements of several cells, sorted: the bridge to the sort's own words. And what slices.SortFunc makes of events. The walk of slices.SortFunc at events, and of (*book.Book).As. What deeds make of a book, in plain mathematics. -/
import Derived.Test.YtcfgacdcgljbaaaGreatDoorBnC
import Derived.Test.YtcfgacdcgljbaaaGreatDoorBnF
import Derived.Test.YtcfgacdcgljbaaaGreatDoorShelf
import Derived.Shelf.SlSortCmp.NoneTotal
import Derived.Test.YtcfgacdcgljbaaaGreatDoorEvInfo
import Derived.Test.YtcfgacdcgljbaaaGreatDoorBnD
namespace Go.Proofs.YtcfgacdcgljbaaaGreatDoor
open Go.RowKit Go.Sort
/-- What the sort makes of events. -/
def srt (l : List Ev) : List Ev := (pdq (ltOf cmpE) l.toArray 0 l.toArray.size (Lib.bitLen l.toArray.size) true true).toList
theorem srt_spec (l : List Ev) : PermIn 0 l.length l.toArray (srt l).toArray ∧ SortedIn (ltOf cmpE) 0 l.length (srt l).toArray := by
  have h := pdq_sorts (ltOf cmpE) swo_cmp l.toArray 0 l.toArray.size (Lib.bitLen l.toArray.size) true true (Nat.zero_le _) (Nat.le_refl _) (Or.inl rfl)
  unfold srt
  simpa using h
theorem srt_len (l : List Ev) : (srt l).length = l.length := by simpa using (srt_spec l).1.1
theorem srt_perm (l : List Ev) : (srt l).Perm l := by
  have h := (srt_spec l).1.2.2
  rw [Array.toList_extract, Array.toList_extract] at h
  simp only [List.extract_eq_take_drop] at h
  simpa [List.take_of_length_le (Nat.le_of_eq (srt_len l))] using h
theorem srt_sorted (l : List Ev) : (srt l).Pairwise fun x y => ltOf cmpE y x = false := by
  rw [List.pairwise_iff_getElem]
  intro i j hi hj hij
  have h := (srt_spec l).2 i j (Nat.zero_le _) hij (by rw [← srt_len l]; exact hj)
  rw [getElem!_pos (srt l).toArray i (by simpa using hi), getElem!_pos (srt l).toArray j (by simpa using hj)] at h
  simpa using h
end Go.Proofs.YtcfgacdcgljbaaaGreatDoor
namespace Go.Proofs.YtcfgacdcgljbaaaGreatDoor
open Go.RowKit
open Go.Sort hiding Below
theorem sortf_any {B : Nat} {v : Value} {l : List Ev} {w : World} (h : w.ownsRow B 44 7 v l.length (l.flatMap evC)) (hl : l.length ≤ 1000000) :
    Calls Tryz.prog 63 #[v, .func (.func 64) #[] #[]] w fun e w' => e = .returned (.tuple #[]) ∧ w'.ownsRow B 44 7 v l.length ((srt l).flatMap evC) ∧ w.grownBy w' v.ownBlock := by
  rcases own_form h with ⟨hv, hn, hx⟩ | ⟨g, cap, hv, _, hg, _⟩
  · subst hv
    have e : l = [] := List.length_eq_zero_iff.1 hn
    have hs : srt l = [] := List.length_eq_zero_iff.1 (by rw [srt_len]; exact hn)
    have hcon := AnyF.slices_SortFunc_none { Tryz.sortF with } none 0 (.func (.func 64) #[] #[]) w
    refine Calls.mono hcon ?_
    rintro e' w' ⟨rfl, rfl⟩
    refine ⟨rfl, ?_, ⟨rfl, rfl, rfl, Nat.le_refl _, fun _ _ _ => rfl⟩⟩
    rw [hs, hn]
    exact World.ownsRow_nil _ _ _ _
  · subst hv
    have hcon := AnyQ.slices_SortFunc_eq Tryz.sortF 7 Tryz.isAgg44 Tryz.sizeOf44 evC evC_len evC_one cmpE swo_cmp 64 #[] g 0 cap l.toArray w
      (enters_of Tryz.func64 (by kernel_rfl) rfl) (fun _ _ _ _ x y => compare_grow x y _) (holdsK_of_own evC_len h) hg (by simp; omega)
    have hcon' : Calls Tryz.prog 63 #[.slice (some ⟨g, 0, none⟩) l.length cap, .func (.func 64) #[] #[]] w _ := hcon
    refine hcon'.mono ?_
    rintro e' w' ⟨rfl, n, os, rfl⟩
    exact ⟨rfl, own_sorted (l' := srt l) evC_len h (srt_len l), grown_sorted _⟩
/-- The turn that is meant. -/
def tOf (b : Bk) (t : Int) : Int := if t < 0 then b.n else t
/-- Events of all versions that were known behind a turn, as they were written. -/
def asOf (b : Bk) (t : Int) : List Ev := (b.vs.filter (isAt t)).map (·.ev)
theorem map_snoc {α β : Type} (f : α → β) (l : List α) (k : Nat) (hk : k < l.length) : (l.take (k + 1)).map f = (l.take k).map f ++ [f l[k]] := by
  rw [List.take_succ_eq_append_getElem hk, List.map_append]; rfl
set_option maxRecDepth 20000 in
set_option maxHeartbeats 8000000 in
/-- Behind the turn that is meant: the rest of As. -/
theorem as_any {B pb : Nat} {sv : Value} {b : Bk} {w : World} (h : BookAt w B pb sv b) (hl : b.vs.length ≤ 1000000) (t : Int) :
    Calls Tryz.prog 16 #[.pointer (some ⟨pb, 0, none⟩), .int .i64 t] w fun r w' => ∃ v, r = .returned v ∧ w'.ownsRow w.heap.size 44 7 v (srt (asOf b (tOf b t))).length ((srt (asOf b (tOf b t))).flatMap evC) ∧ Below w.heap.size w w' := by
  obtain ⟨i0, hi, hz0, hz1, hz2⟩ := info_parts Tryz.infoEv
  obtain ⟨u, hu⟩ : ∃ u, u = tOf b t := ⟨_, rfl⟩
  rw [← hu]
  obtain ⟨W, hW⟩ : ∃ W, W = w.alloc (.cells #[.int .i64 u] 3) := ⟨_, rfl⟩
  have hBW : Below w.heap.size w W := by rw [hW]; exact (Below.refl _ _).alloc (Nat.le_refl _) _
  have hcw : W.cell? ⟨w.heap.size, 0, none⟩ = some (.int .i64 u) := by rw [hW]; simp
  have hsw : w.heap.size < W.heap.size := by rw [hW]; simp
  have HB := h.below hBW
  have hth := those_any HB hl 62 #[.pointer (some ⟨w.heap.size, 0, none⟩)] (isAt u) (enters_of Tryz.func62 (by kernel_rfl) rfl)
    (fun W' x hb => at_any x u w.heap.size W' (Nat.lt_of_lt_of_le hsw hb.size) (below_cell hb hcw))
  obtain ⟨fs, hfs⟩ : ∃ fs, fs = b.vs.filter (isAt u) := ⟨_, rfl⟩
  have has : asOf b u = fs.map (·.ev) := by rw [hfs]; rfl
  have hfl : fs.length ≤ 1000000 := by rw [hfs]; exact Nat.le_trans (List.length_filter_le _ _) hl
  rw [← hfs] at hth
  rw [has]
  have c1 : (w.alloc (.cells #[.int .i64 t] 3)).cell? ⟨pb, 1, none⟩ = some (.int .i64 b.n) := (h.below ((Below.refl _ _).alloc (Nat.le_refl _) _)).c1
  have hne : pb ≠ w.heap.size := by have := h.lt; omega
  have hnz : w.heap.size ≠ pb := by have := h.lt; omega
  clear has hfs HB h
  have key : t < 0 ∧ u = b.n ∨ ¬ t < 0 ∧ u = t := by
    rw [hu]; unfold tOf
    by_cases h0 : t < 0
    · exact Or.inl ⟨h0, by rw [if_pos h0]⟩
    · exact Or.inr ⟨h0, by rw [if_neg h0]⟩
  clear hu
  go_enter Tryz.func16, Tryz.ntmps16
  rcases key with ⟨h0, rfl⟩ | ⟨h0, rfl⟩
  all_goals
    go_wp2_with fail
    rw [← hW]
    refine hth.mono ?_
    rintro e w1 ⟨v1, rfl, hown1, hb1⟩
    have hb01 : Below w.heap.size w w1 := hBW.trans (hb1.mono hBW.size)
    clear hth hW hcw c1 hb1
    rcases own_form hown1 with ⟨hv, hn, hx⟩ | ⟨g, cap, hv, hgB, hgl, _⟩
    · subst hv
      have hz : fs = [] := List.length_eq_zero_iff.1 hn
      subst hz
      have hsr : srt [] = [] := List.length_eq_zero_iff.1 (by rw [srt_len]; rfl)
      have hcs := sortf_any (B := w.heap.size) (l := []) (World.ownsRow_nil w1 _ _ _) (by simp)
      simp only [List.flatMap_nil, List.length_nil, hsr] at hcs
      have HS : Hid (srt [] = []) := hsr
      clear hsr
      go_wp2
      refine wp_loop_rounds 1 ?_
      rw [rounds_succ]
      go_wp2_with fail
      refine hcs.mono ?_
      rintro e w2 ⟨rfl, ho2, hg2⟩
      go_wp2
      go_ret
      refine ⟨_, rfl, ?_, hb01.grown hg2 hb01.size (fun k hk => by cases hk)⟩
      rw [List.map_nil, HS.out]
      exact ho2
    · subst hv
      have hg0 : w.heap.size ≤ g := Nat.le_trans hBW.size hgB
      go_wp2
      go_loopw [5, 18] (fun v i wr => ∃ k : Nat, k ≤ fs.length ∧ i = .int .i64 k ∧ wr.ownsRow w1.heap.size 44 7 v k (((fs.take k).map (·.ev)).flatMap evC) ∧ Below w1.heap.size w1 wr)
        (fun _ i _ => fs.length - (intOf i).toNat)
      case atStart => exact ⟨0, Nat.zero_le _, rfl, World.ownsRow_nil _ _ _ _, Below.refl _ _⟩
      case round =>
        obtain ⟨k, hk, rfl, hv, hb⟩ := hrel
        by_cases hlt : k < fs.length
        · obtain ⟨x, hx⟩ : ∃ x, x = fs[k] := ⟨_, rfl⟩
          have hcw : ∀ j, j < 9 → wr.cell? ⟨g, k * 9 + j, none⟩ = (vrC x)[j]? := fun j hj => by
            rw [hb.cell (p := ⟨g, k * 9 + j, none⟩) hgl, (own_cell vrC_len hown1 k j hlt hj).1, hx]
          have HF := map_snoc Vr.ev fs k hlt
          rw [← hx] at HF
          obtain ⟨⟨id, item, kind, qty, price, ofI, day⟩, fr, to⟩ := x
          have q0 := hcw 0 (by omega)
          have q1 := hcw 1 (by omega)
          have q2 := hcw 2 (by omega)
          have q3 := hcw 3 (by omega)
          have q4 := hcw 4 (by omega)
          have q5 := hcw 5 (by omega)
          have q6 := hcw 6 (by omega)
          have q7 := hcw 7 (by omega)
          have q8 := hcw 8 (by omega)
          simp only [vrC, List.getElem?_cons_zero, List.getElem?_cons_succ, Nat.add_zero] at q0 q1 q2 q3 q4 q5 q6 q7 q8
          clear hcw hx
          have HF' : Hid (_ = _) := HF
          clear HF
          have HO : Hid (wr.ownsRow _ _ _ _ _ _) := hv
          clear hv
          go_wp2_with (first
            | (at_builtin; refine wpList_append_own _ rfl _ _ 59 rfl w1.heap.size 44 i0 evZ 7 64 Tryz.underlying59 hi hz0 hz1 hz2 rfl (by decide) _ _ _ rfl ((HO.out.alloc _).alloc _) ⟨wr.heap.size + 1, 0, none⟩ 1 1 (evC ⟨id, item, kind, qty, price, ofI, day⟩) rfl rfl ?d1 ?d2 ?d3 ?d4 ?d5 ?_)
            | go_in)
          case d1 => exact fun _ _ h => h
          case d2 => exact evC_one _
          case d3 => unfold maxLen; omega
          case d4 => omega
          case d5 => have := hb.size; simp; omega
          · intro v' w2 hown2 hgr _
            go_wp2
            go_roundw
            case rel =>
              refine ⟨k + 1, by omega, by go_num, ?_, ?_⟩
              · rw [HF'.out, flatMap_snoc, List.map_take]
                exact hown2
              · exact ((hb.alloc hb.size _).alloc (by have := hb.size; simp; omega) _).grown hgr (by have := hb.size; simp; omega) (fun j hj => (HO.out.lt j hj).1)
            case measure => simp [intOf]; omega
        · have e : k = fs.length := by omega
          subst e
          rw [List.take_length] at hv
          have hv' : wr.ownsRow w.heap.size 44 7 u5 (fs.map (·.ev)).length ((fs.map (·.ev)).flatMap evC) := by
            rw [List.length_map]; exact own_below hv (Below.refl _ _) hb01.size
          have hcs := sortf_any hv' (by rw [List.length_map]; exact hfl)
          have hrow : ∀ j, u5.ownBlock = some j → w.heap.size ≤ j := fun j hj => (hv'.lt j hj).1
          have hbw : Below w.heap.size w wr := hb01.trans (hb.mono hb01.size)
          have hln : (srt (fs.map (·.ev))).length = (fs.map (·.ev)).length := srt_len _
          have HL : Hid ((srt (fs.map (·.ev))).length = (fs.map (·.ev)).length) := hln
          clear hv hv' hln
          go_wp2_with fail
          refine hcs.mono ?_
          rintro e w3 ⟨rfl, ho3, hg3⟩
          go_wp2
          go_ret
          refine ⟨_, rfl, ?_, hbw.grown hg3 hbw.size hrow⟩
          rw [HL.out]
          exact ho3
end Go.Proofs.YtcfgacdcgljbaaaGreatDoor
namespace Go.Proofs.YtcfgacdcgljbaaaGreatDoor
open Go.RowKit
/-- Known yet. -/
def isNow (v : Vr) : Bool := decide (v.to = 0)
/-- What a book is that was made by deeds. -/
structure Inv (b : Bk) : Prop where
  fr : ∀ v ∈ b.vs, 1 ≤ v.fr ∧ v.fr ≤ b.n
  to : ∀ v ∈ b.vs, v.to = 0 ∨ (1 ≤ v.to ∧ v.to ≤ b.n)
  id : ∀ v ∈ b.vs, 1 ≤ v.ev.id ∧ v.ev.id ≤ b.g
  rt : ∀ v ∈ b.vs, Rt v.ev
  ew : ∀ v ∈ b.vs, EvW v.ev
  one : ((b.vs.filter isNow).map (·.ev.id)).Nodup
  n0 : 0 ≤ b.n
  g0 : 0 ≤ b.g
  gn : b.g ≤ b.n
  len : b.vs.length ≤ b.n
  full : b.vs.length ≤ 120
theorem Inv.ok {b : Bk} (h : Inv b) (hn : b.n ≤ 1000000) : BkOk b := ⟨h.full, h.n0, hn, h.g0, by have := h.gn; omega⟩
theorem inv_zero : Inv ⟨[], 0, 0⟩ := ⟨by simp, by simp, by simp, by simp, by simp, by simp, by simp, by simp, by simp, by simp, by simp⟩
theorem setTo_mem : ∀ (l : List Vr) (k : Nat) (t : Int) (v : Vr), v ∈ setTo l k t → ∃ u ∈ l, u.ev = v.ev ∧ u.fr = v.fr ∧ (v.to = u.to ∨ v.to = t)
  | [], _, _, v, h => by cases h
  | u :: l, 0, t, v, h => by
    rcases List.mem_cons.1 h with e | h
    · exact ⟨u, List.mem_cons_self, by rw [e], by rw [e], Or.inr (by rw [e])⟩
    · exact ⟨v, List.mem_cons_of_mem _ h, rfl, rfl, Or.inl rfl⟩
  | u :: l, k + 1, t, v, h => by
    rcases List.mem_cons.1 h with e | h
    · exact ⟨u, List.mem_cons_self, by rw [e], by rw [e], Or.inl (by rw [e])⟩
    · obtain ⟨x, hx, h1⟩ := setTo_mem l k t v h
      exact ⟨x, List.mem_cons_of_mem _ hx, h1⟩
theorem setTo_now : ∀ (l : List Vr) (k : Nat) (t : Int) (hk : k < l.length), t ≠ 0 → l[k].to = 0 → ∃ A C, l.filter isNow = A ++ l[k] :: C ∧ (setTo l k t).filter isNow = A ++ C
  | [], k, _, hk, _, _ => absurd hk (Nat.not_lt_zero _)
  | u :: l, 0, t, _, ht, h0 => by
    have h0' : u.to = 0 := h0
    refine ⟨[], l.filter isNow, ?_, ?_⟩
    · simp [isNow, h0']
    · simp [setTo, isNow, ht]
  | u :: l, k + 1, t, hk, ht, h0 => by
    obtain ⟨A, C, h1, h2⟩ := setTo_now l k t (by simpa using hk) ht (by simpa using h0)
    by_cases hu : isNow u = true
    · exact ⟨u :: A, C, by simp only [List.filter_cons, hu, if_true, h1, List.getElem_cons_succ, List.cons_append], by simp only [setTo, List.filter_cons, hu, if_true, h2, List.cons_append]⟩
    · exact ⟨A, C, by simp only [List.filter_cons, hu, h1, List.getElem_cons_succ]; rfl, by simp only [setTo, List.filter_cons, hu, h2]; rfl⟩
theorem setTo_at : ∀ (l : List Vr) (k : Nat) (t T : Int) (hk : k < l.length), l[k].to = 0 → t < T → T ≠ 0 → ((setTo l k T).filter (isAt t)).map (·.ev) = (l.filter (isAt t)).map (·.ev)
  | [], k, _, _, hk, _, _, _ => absurd hk (Nat.not_lt_zero _)
  | u :: l, 0, t, T, _, h0, ht, hT => by
    have h0' : u.to = 0 := h0
    have e : isAt t ⟨u.ev, u.fr, T⟩ = isAt t u := by simp [isAt, h0', ht]
    simp only [setTo, List.filter_cons, e]
    split <;> simp
  | u :: l, k + 1, t, T, hk, h0, ht, hT => by
    have ih := setTo_at l k t T (by simpa using hk) (by simpa using h0) ht hT
    simp only [setTo, List.filter_cons]
    split
    · simp only [List.map_cons, ih]
    · exact ih
/-- What is known yet is what was known behind the last turn. -/
theorem asOf_now {b : Bk} (h : Inv b) : asOf b b.n = (b.vs.filter isNow).map (·.ev) := by
  unfold asOf
  congr 1
  apply List.filter_congr
  intro v hv
  have h1 := (h.fr v hv).2
  have h2 := h.to v hv
  unfold isAt isNow
  by_cases h3 : v.to = 0
  · simp [h1, h3]
  · have h4 : ¬ b.n < v.to := by omega
    simp [h3, h4]
theorem asOf_zero {b : Bk} (h : Inv b) : asOf b 0 = [] := by
  unfold asOf
  rw [List.map_eq_nil_iff, List.filter_eq_nil_iff]
  intro v hv
  have h1 := (h.fr v hv).1
  have h2 : ¬ v.fr ≤ 0 := by omega
  simp [isAt, h2]
theorem kIx_at {vs : List Vr} {id : Int} {k : Nat} (hk : k < vs.length) (h : kIx vs id = k) : vs[k].ev.id = id ∧ vs[k].to = 0 := by
  rcases kIx_spec vs id with ⟨h1, _⟩ | ⟨j, hj, h1, h2, _⟩
  · rw [h] at h1; omega
  · have e : j = k := by rw [h] at h1; omega
    subst e
    simpa [isK] using h2
theorem isAt_new (t n : Int) (e : Ev) (h : t ≤ n) : isAt t ⟨e, n + 1, 0⟩ = false := by
  have : ¬ n + 1 ≤ t := by omega
  simp [isAt, this]
/-- What was known behind a turn stays so. -/
theorem asOf_step {b b' : Bk} {x : Ac} (h : Inv b) (hs : StepA b x b') (t : Int) (ht : t ≤ b.n) : asOf b' t = asOf b t := by
  have n0 := h.n0
  rcases hs with ⟨_, _, _, rfl⟩ | ⟨_, _, _, k, hk, hkx, rfl⟩ | ⟨_, k, hk, hkx, rfl⟩
  · unfold asOf postB wrB
    simp only [List.filter_append, List.map_append]
    rw [List.filter_cons, isAt_new t b.n _ ht]
    simp
  · have e := setTo_at b.vs k t (b.n + 1) hk (kIx_at hk hkx).2 (by omega) (by omega)
    unfold asOf corrB wrB endB
    simp only [List.filter_append, List.map_append]
    rw [List.filter_cons, isAt_new t b.n _ ht, e]
    simp
  · exact setTo_at b.vs k t (b.n + 1) hk (kIx_at hk hkx).2 (by omega) (by omega)
theorem step_n {b b' : Bk} {x : Ac} (hs : StepA b x b') : b'.n = b.n + 1 := by
  rcases hs with ⟨_, _, _, rfl⟩ | ⟨_, _, _, k, hk, hkx, rfl⟩ | ⟨_, k, hk, hkx, rfl⟩ <;> rfl
theorem rt_id {e : Ev} (h : Rt e) (i : Int) : Rt { e with id := i } := h
theorem ew_id {e : Ev} (h : EvW e) (i : Int) (hi : (Lit.int .i64 i).wf = true) : EvW { e with id := i } := ⟨hi, h.item, h.kind, h.qty, h.price, h.ofI, h.day⟩
theorem wf_small {i : Int} (h0 : 0 ≤ i) (h1 : i ≤ 9223372036854775807) : (Lit.int .i64 i).wf = true := by
  simp [Lit.wf, IntKind.min, IntKind.max, IntKind.signed, IntKind.bits]; omega
theorem inv_step {b b' : Bk} {x : Ac} (h : Inv b) (he : EvW x.e) (hn : b.n ≤ 1000000) (hs : StepA b x b') : Inv b' := by
  have n0 := h.n0
  have g0 := h.g0
  have gn := h.gn
  have hl := h.len
  rcases hs with ⟨_, hr, hlt, rfl⟩ | ⟨_, hr, hlt, k, hk, hkx, rfl⟩ | ⟨_, k, hk, hkx, rfl⟩
  · refine ⟨fun v hv => ?_, fun v hv => ?_, fun v hv => ?_, fun v hv => ?_, fun v hv => ?_, ?_, ?_, ?_, ?_, ?_, ?_⟩
    · rcases List.mem_append.1 hv with hv | hv
      · have := h.fr v hv; exact ⟨this.1, by show v.fr ≤ b.n + 1; omega⟩
      · rw [List.mem_singleton.1 hv]; exact ⟨by show 1 ≤ b.n + 1; omega, Int.le_refl _⟩
    · rcases List.mem_append.1 hv with hv | hv
      · rcases h.to v hv with h1 | h1
        · exact Or.inl h1
        · exact Or.inr ⟨h1.1, by show v.to ≤ b.n + 1; omega⟩
      · rw [List.mem_singleton.1 hv]; exact Or.inl rfl
    · rcases List.mem_append.1 hv with hv | hv
      · have := h.id v hv; exact ⟨this.1, by show v.ev.id ≤ b.g + 1; omega⟩
      · rw [List.mem_singleton.1 hv]; exact ⟨by show 1 ≤ b.g + 1; omega, Int.le_refl _⟩
    · rcases List.mem_append.1 hv with hv | hv
      · exact h.rt v hv
      · rw [List.mem_singleton.1 hv]; exact rt_id hr _
    · rcases List.mem_append.1 hv with hv | hv
      · exact h.ew v hv
      · rw [List.mem_singleton.1 hv]; exact ew_id he _ (wf_small (by omega) (by omega))
    · show (((b.vs ++ [(⟨{ x.e with id := b.g + 1 }, b.n + 1, 0⟩ : Vr)]).filter isNow).map fun v => v.ev.id).Nodup
      rw [List.filter_append, List.map_append, List.nodup_append]
      refine ⟨h.one, ?_, fun i hi j hj => ?_⟩
      · simp [isNow]
      · obtain ⟨v, hv, rfl⟩ := List.mem_map.1 hi
        have := (h.id v (List.mem_filter.1 hv).1).2
        have e : j = b.g + 1 := by simpa [isNow] using hj
        omega
    · show 0 ≤ b.n + 1; omega
    · show 0 ≤ b.g + 1; omega
    · show b.g + 1 ≤ b.n + 1; omega
    · show ((b.vs ++ [_]).length : Int) ≤ b.n + 1
      rw [List.length_append]; simp; omega
    · show (b.vs ++ [_]).length ≤ 120
      rw [List.length_append]; simp; omega
  · obtain ⟨hid, hto⟩ := kIx_at hk hkx
    obtain ⟨A, C, h1, h2⟩ := setTo_now b.vs k (b.n + 1) hk (by omega) hto
    have hone := h.one
    rw [h1] at hone
    simp only [List.map_append, List.map_cons] at hone
    have hmem := h.id b.vs[k] (List.getElem_mem hk)
    rw [hid] at hmem
    refine ⟨fun v hv => ?_, fun v hv => ?_, fun v hv => ?_, fun v hv => ?_, fun v hv => ?_, ?_, ?_, ?_, ?_, ?_, ?_⟩
    · rcases List.mem_append.1 hv with hv | hv
      · obtain ⟨u, hu, _, h4, _⟩ := setTo_mem _ _ _ _ hv
        have := h.fr u hu
        rw [h4] at this
        exact ⟨this.1, by show v.fr ≤ b.n + 1; omega⟩
      · rw [List.mem_singleton.1 hv]; exact ⟨by show 1 ≤ b.n + 1; omega, Int.le_refl _⟩
    · rcases List.mem_append.1 hv with hv | hv
      · obtain ⟨u, hu, _, _, h5⟩ := setTo_mem _ _ _ _ hv
        have h6 := h.to u hu
        show v.to = 0 ∨ (1 ≤ v.to ∧ v.to ≤ b.n + 1)
        omega
      · rw [List.mem_singleton.1 hv]; exact Or.inl rfl
    · rcases List.mem_append.1 hv with hv | hv
      · obtain ⟨u, hu, h3, _⟩ := setTo_mem _ _ _ _ hv
        have := h.id u hu
        rw [h3] at this
        exact this
      · rw [List.mem_singleton.1 hv]; exact hmem
    · rcases List.mem_append.1 hv with hv | hv
      · obtain ⟨u, hu, h3, _⟩ := setTo_mem _ _ _ _ hv
        rw [← h3]; exact h.rt u hu
      · rw [List.mem_singleton.1 hv]; exact rt_id hr _
    · rcases List.mem_append.1 hv with hv | hv
      · obtain ⟨u, hu, h3, _⟩ := setTo_mem _ _ _ _ hv
        rw [← h3]; exact h.ew u hu
      · rw [List.mem_singleton.1 hv]; exact ew_id he _ (wf_small (by omega) (by omega))
    · show (((setTo b.vs k (b.n + 1) ++ [(⟨{ x.e with id := x.id }, b.n + 1, 0⟩ : Vr)]).filter isNow).map fun v => v.ev.id).Nodup
      rw [List.filter_append, h2, List.map_append, List.map_append]
      have e : ([(⟨{ x.e with id := x.id }, b.n + 1, 0⟩ : Vr)].filter isNow).map (·.ev.id) = [x.id] := by simp [isNow]
      rw [e]
      rw [hid] at hone
      have hp : (A.map (·.ev.id) ++ x.id :: C.map (·.ev.id)).Perm (A.map (·.ev.id) ++ C.map (·.ev.id) ++ [x.id]) := by
        rw [List.append_assoc]
        exact List.Perm.append_left _ (List.perm_append_singleton _ _).symm
      exact hp.nodup hone
    · show 0 ≤ b.n + 1; omega
    · exact g0
    · show b.g ≤ b.n + 1; omega
    · show ((setTo b.vs k (b.n + 1) ++ [_]).length : Int) ≤ b.n + 1
      rw [List.length_append, setTo_len]; simp; omega
    · show (setTo b.vs k (b.n + 1) ++ [_]).length ≤ 120
      rw [List.length_append, setTo_len]; simp; omega
  · obtain ⟨hid, hto⟩ := kIx_at hk hkx
    obtain ⟨A, C, h1, h2⟩ := setTo_now b.vs k (b.n + 1) hk (by omega) hto
    have hone := h.one
    rw [h1] at hone
    refine ⟨fun v hv => ?_, fun v hv => ?_, fun v hv => ?_, fun v hv => ?_, fun v hv => ?_, ?_, ?_, ?_, ?_, ?_, ?_⟩
    · obtain ⟨u, hu, _, h4, _⟩ := setTo_mem _ _ _ _ hv
      have := h.fr u hu
      rw [h4] at this
      exact ⟨this.1, by show v.fr ≤ b.n + 1; omega⟩
    · obtain ⟨u, hu, _, _, h5⟩ := setTo_mem _ _ _ _ hv
      have h6 := h.to u hu
      show v.to = 0 ∨ (1 ≤ v.to ∧ v.to ≤ b.n + 1)
      omega
    · obtain ⟨u, hu, h3, _⟩ := setTo_mem _ _ _ _ hv
      have := h.id u hu
      rw [h3] at this
      exact this
    · obtain ⟨u, hu, h3, _⟩ := setTo_mem _ _ _ _ hv
      rw [← h3]; exact h.rt u hu
    · obtain ⟨u, hu, h3, _⟩ := setTo_mem _ _ _ _ hv
      rw [← h3]; exact h.ew u hu
    · show (((setTo b.vs k (b.n + 1)).filter isNow).map (·.ev.id)).Nodup
      rw [h2]
      exact hone.sublist (List.Sublist.map _ (List.Sublist.append_left (List.sublist_cons_self _ _) _))
    · show 0 ≤ b.n + 1; omega
    · exact g0
    · show b.g ≤ b.n + 1; omega
    · show ((setTo b.vs k (b.n + 1)).length : Int) ≤ b.n + 1
      rw [setTo_len]; omega
    · show (setTo b.vs k (b.n + 1)).length ≤ 120
      rw [setTo_len]; exact h.full
/-- Of what is known yet each has a number of its own, and may be. -/
theorem now_nodup {b : Bk} (h : Inv b) : ((srt (asOf b b.n)).map (·.id)).Nodup := by
  have h1 := h.one
  have h2 : ((asOf b b.n).map (·.id)).Nodup := by rw [asOf_now h, List.map_map]; exact h1
  exact ((srt_perm _).map _).symm.nodup h2
theorem now_mem {b : Bk} (h : Inv b) (e : Ev) (he : e ∈ srt (asOf b b.n)) : Rt e ∧ EvW e ∧ 1 ≤ e.id := by
  have h1 := (srt_perm _).mem_iff.1 he
  rw [asOf_now h] at h1
  obtain ⟨v, hv, rfl⟩ := List.mem_map.1 h1
  have hm := (List.mem_filter.1 hv).1
  exact ⟨h.rt v hm, h.ew v hm, (h.id v hm).1⟩
end Go.Proofs.YtcfgacdcgljbaaaGreatDoor
