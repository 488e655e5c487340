/- A walk through a result's map: what has been seen. The walk of tallymanref.At. The walk of tallymanref.Moves. -/
import Derived.Test.YtcfgacdcgljbaaaGreatDoorBnQ
import Derived.Test.YtcfgacdcgljbaaaGreatDoorRefBookLook
import Derived.Test.YtcfgacdcgljbaaaGreatDoorRefRun
import Derived.Test.YtcfgacdcgljbaaaGreatDoorBpA
import Derived.Test.YtcfgacdcgljbaaaGreatDoorRtSort
import Derived.Test.YtcfgacdcgljbaaaGreatDoorBpC
namespace Go.Proofs.YtcfgacdcgljbaaaGreatDoor
open Go.RowKit Go.Maps
/-- What has been seen of a map, and what is left. -/
structure Seen (D : DataW Value) (left : Lit → Bool) (S : List ByteArray) : Prop where
  nd : S.Nodup
  gone : ∀ x ∈ S, left (keyB x) = false
  all : ∀ x, has D (keyB x) = true → left (keyB x) = true ∨ x ∈ S
theorem seen_zero (D : DataW Value) : Seen D (has D) [] := ⟨List.nodup_nil, by simp, fun _ h => Or.inl h⟩
theorem Seen.step {D : DataW Value} {left : Lit → Bool} {S : List ByteArray} (h : Seen D left S) {x : ByteArray} (hx : left (keyB x) = true) : Seen D (fun z => left z && !z.sameKey (keyB x)) (S ++ [x]) := by
  have hn : x ∉ S := fun hm => by rw [h.gone x hm] at hx; cases hx
  refine ⟨?_, fun y hy => ?_, fun y hy => ?_⟩
  · rw [List.nodup_append]
    refine ⟨h.nd, by simp, fun a ha b hb e => ?_⟩
    rw [List.mem_singleton] at hb
    subst hb
    exact hn (e ▸ ha)
  · rcases List.mem_append.1 hy with hy | hy
    · simp only [h.gone y hy, Bool.false_and]
    · rw [List.mem_singleton] at hy
      subst hy
      simp only [WideAt.sameKey_self (keyB_key _), Bool.not_true, Bool.and_false]
  · rcases h.all y hy with hl | hm
    · by_cases e : y = x
      · exact Or.inr (by simp [e])
      · exact Or.inl (by simp only [hl, sameKey_ne (fun a => e (keyB_inj a) : keyB y ≠ keyB x), Bool.not_false, Bool.and_true])
    · exact Or.inr (by simp [hm])
theorem Seen.end_ {B : Nat} {W : World} {mb n : Nat} {D : DataW Value} {V : ByteArray → Value} {M : Stks} {u : Value} {ls : List Lin} (hr : RunRes B W mb n D V M u ls) {left : Lit → Bool} {S : List ByteArray} (h : Seen D left S) (hl : ∀ kl, left kl = false) : ∀ x, x ∉ S → (M x).ys = [] := by
  intro x hx
  by_cases e : (M x).ys = []
  · exact e
  · exfalso
    rcases h.all x (has_true_of_atKey (hr.yes x e)) with h1 | h1
    · rw [hl] at h1; cases h1
    · exact hx h1
theorem ranges_on {P : Program} {k : TypeId} {R : Value → Option (DataW Value × List MemPlace)} {w w' : World} {b r n cnt : Nat} {D : DataW Value} {left : Lit → Bool} (h : w.ranges P k R b r n D left cnt) (hb : Below w.heap.size w w') : w'.ranges P k R b r n D left cnt := by
  have hg : w.grownBy w' none := ⟨hb.os, hb.tape, hb.output, hb.size, fun j hj _ => hb.block j hj⟩
  exact h.kept hg (by simp) (by simp)
end Go.Proofs.YtcfgacdcgljbaaaGreatDoor
namespace Go.Proofs.YtcfgacdcgljbaaaGreatDoor
open Go.RowKit Go.Maps
def rhoZ : Value := .agg #[.string ⟨#[]⟩, .int .i64 0, .int .i64 0]
theorem rho_info : (Tryz.prog.info? 103).map (fun i => (i.zero, i.size, i.bytes)) = some (some rhoZ, 3, 32) := by kernel_rfl
/-- What there is of an item. -/
def hOf (M : Stks) (k : ByteArray) : Hld := ⟨k, sumQ (M k).ys, sumV (M k).ys⟩
theorem hOf_flat (M : Stks) (ks : List ByteArray) : (ks.map (hOf M)).flatMap rhC = ks.flatMap (holdC M) := by
  rw [List.flatMap_map]; rfl
theorem key_inv {x : ByteArray} {kl : Lit} (h : keyOf Tryz.prog 9 (.string x) = some kl) : kl = keyB x ∧ x.size ≤ maxLen := by
  obtain ⟨z, hz, hx, hs⟩ := Maps.keyOf_str Tryz.underlying9 h
  cases hz
  exact ⟨hx, hs⟩
theorem hold_keys {M : Stks} {S : List ByteArray} {out : List Hld} {P : ByteArray → Prop} (hp : out.Perm (S.map (hOf M))) (hn : S.Nodup) (hm : ∀ x, x ∈ S ↔ P x) (hs : out.Pairwise fun a b => a.item.data.toList ≤ b.item.data.toList) : ∃ ks, Keys P ks ∧ out = ks.map (hOf M) := by
  have e1 : (S.map (hOf M)).map (·.item) = S := by rw [List.map_map]; exact List.map_id _
  have h1 := hp.map (·.item)
  rw [e1] at h1
  refine ⟨out.map (·.item), ⟨h1.nodup_iff.2 hn, fun x => h1.mem_iff.trans (hm x), List.pairwise_map.2 hs⟩, ?_⟩
  rw [List.map_map]
  have h2 : out.map id = out.map (hOf M ∘ (·.item)) := List.map_congr_left fun a ha => by
    obtain ⟨z, _, rfl⟩ := List.mem_map.1 (hp.mem_iff.1 ha)
    rfl
  rw [List.map_id] at h2
  exact h2
theorem HoAt.ranged {W : World} {ob : Nat} {ov : Value} {out : List Hld} (h : HoAt W ob ov out) {H : Type} {k : TypeId} {R : Value → Option (DataW H × List MemPlace)} {m r n cnt : Nat} {D : DataW H} {left : Lit → Bool} (hr : W.ranges Tryz.prog k R m r n D left cnt) :
    m ≠ ob ∧ r ≠ ob ∧ some m ≠ ov.ownBlock ∧ some r ≠ ov.ownBlock := by
  obtain ⟨es, clock, since, seen, c0, hm, _, _, _, hi, _⟩ := hr
  have hb : W.heap[ob]? = some (.cells #[ov] 100 (0, 0)) := h.box
  refine ⟨fun e => ?_, fun e => ?_, fun e => ?_, fun e => ?_⟩
  · rw [e, hb] at hm; cases hm
  · rw [e, hb] at hi; cases hi
  · rcases h.row.2 with ⟨hv, _⟩ | ⟨g, cap, cur, hv, _, hg, _⟩
    · rw [hv] at e; simp [Value.ownBlock] at e
    · rw [hv] at e
      simp only [Value.ownBlock, Option.some.injEq] at e
      rw [← e, hm] at hg; cases hg
  · rcases h.row.2 with ⟨hv, _⟩ | ⟨g, cap, cur, hv, _, hg, _⟩
    · rw [hv] at e; simp [Value.ownBlock] at e
    · rw [hv] at e
      simp only [Value.ownBlock, Option.some.injEq] at e
      rw [← e, hi] at hg; cases hg
theorem HoAt.grown {W W' : World} {ob r : Nat} {ov : Value} {out : List Hld} (h : HoAt W ob ov out) (hg : W.grownBy W' (some r)) (h1 : r ≠ ob) (h2 : some r ≠ ov.ownBlock) : HoAt W' ob ov out :=
  ⟨(hg.block ob h.box.lt (by simpa using fun e => h1 e.symm)).trans h.box, h.row.kept hg (Or.inr h2.symm)⟩
set_option maxRecDepth 20000 in
set_option maxHeartbeats 8000000 in
theorem rat_any {B pb : Nat} {sv : Value} {b : Bk} {w : World} (h : RAt w B pb sv b) (hl : b.vs.length ≤ 200) (n t : Int) (L : List Ev) (hL : ∀ l : List Ev, l.Perm (asOf b (tR b t)) → (l.Pairwise fun x y => ltOf cmpE y x = false) → l.filter (fun e => decide (e.day ≤ n)) = L) (hw : ∀ e ∈ L, EvW e) (hg : TabG w) :
    Calls Tryz.prog 34 #[.pointer (some ⟨pb, 0, none⟩), .int .i64 n, .int .i64 t] w fun r w' => ∃ (u : Value) (ks : List ByteArray), r = .returned u ∧ Keys (fun x => (goS stk00 (ordd L) x).ys ≠ []) ks ∧ w'.ownsRow w.heap.size 103 3 u ks.length (ks.flatMap (holdC (goS stk00 (ordd L)))) ∧ Below w.heap.size w w' := by
  obtain ⟨i0, hi, hz0, hz1, hz2⟩ := info_parts Tryz.infoEv
  obtain ⟨j0, ji, jz0, jz1, jz2⟩ := info_parts rho_info
  have has := ras_any h (by omega) t
  have HG := hidE hg
  have HL := hidE hL
  have HWE := hidE hw
  have hlen : (asOf b (tR b t)).length ≤ 200 := by
    unfold asOf
    rw [List.length_map]
    exact Nat.le_trans (List.length_filter_le _ _) hl
  clear h hg hL hw
  go_enter Tryz.func34, Tryz.ntmps34
  go_wp2_with fail
  refine has.mono ?_
  rintro r w1 ⟨v1, l, rfl, hown1, hperm, hsrt, hb1⟩
  have HLL : Hid (l.filter (fun e => decide (e.day ≤ n)) = L) := HL.out l hperm hsrt
  have hll : l.length ≤ 200 := by rw [hperm.length_eq]; exact hlen
  have hs1 := hb1.size
  have HB1 := hidE hb1
  have HO1 := hidE hown1
  obtain ⟨ad1, cp1, hv1⟩ := own_lenN hown1
  subst hv1
  clear has hperm hsrt HL hown1 hb1 hlen
  go_wp2
  go_loopw [7, 19] (fun v i wr => ∃ k : Nat, k ≤ l.length ∧ i = .int .i64 k ∧ Hid (wr.ownsRow w1.heap.size 44 7 v ((l.take k).filter fun e => decide (e.day ≤ n)).length (((l.take k).filter fun e => decide (e.day ≤ n)).flatMap evC)) ∧ Hid (Below w1.heap.size w1 wr)) (fun _ i _ => l.length - (intOf i).toNat)
  case atStart => exact ⟨0, Nat.zero_le _, rfl, World.ownsRow_nil _ _ _ _, Below.refl _ _⟩
  case round =>
    obtain ⟨k, hk, rfl, HO, HB⟩ := hrel
    have hsw := HB.out.size
    by_cases hlt : k < l.length
    · have hkz : (k : Int) < (l.length : Int) := by omega
      rcases own_form HO1.out with ⟨_, x2, _⟩ | ⟨g, cp, x1, _, hgl, _⟩
      · rw [x2] at hlt; exact absurd hlt (Nat.not_lt_zero _)
      simp only [Value.slice.injEq] at x1
      obtain ⟨rfl, _, rfl⟩ := x1
      obtain ⟨x, hx⟩ : ∃ x, x = l[k] := ⟨_, rfl⟩
      have hcw : ∀ j, j < 7 → wr.cell? ⟨g, k * 7 + j, none⟩ = (evC x)[j]? := fun j hj => by
        rw [HB.out.cell (p := ⟨g, k * 7 + j, none⟩) hgl, (own_cell evC_len HO1.out k j hlt hj).1, hx]
      have HF : Hid ((l.take (k + 1)).filter (fun e => decide (e.day ≤ n)) = (l.take k).filter (fun e => decide (e.day ≤ n)) ++ if decide (x.day ≤ n) then [x] else []) := by
        show _ = _
        rw [hx]; exact filter_snoc _ l k hlt
      have hfl : ((l.take k).filter (fun e => decide (e.day ≤ n))).length ≤ 200 := Nat.le_trans (List.length_filter_le _ _) (by rw [List.length_take]; omega)
      clear hx
      obtain ⟨fs, hfs⟩ : ∃ fs, fs = (l.take k).filter (fun e => decide (e.day ≤ n)) := ⟨_, rfl⟩
      rw [← hfs] at HO hfl HF
      clear hfs
      obtain ⟨id2, item, kind, qty, price, ofI, day⟩ := x
      have q0 := hcw 0 (by omega)
      have q1 := hcw 1 (by omega)
      have q2 := hcw 2 (by omega)
      have q3 := hcw 3 (by omega)
      have q4 := hcw 4 (by omega)
      have q5 := hcw 5 (by omega)
      have q6 := hcw 6 (by omega)
      simp only [evC, List.getElem?_cons_zero, List.getElem?_cons_succ, Nat.add_zero] at q0 q1 q2 q3 q4 q5 q6
      clear hcw
      have HB2 : Hid (∀ o, Below w1.heap.size w1 (wr.alloc o)) := fun o => HB.out.alloc HB.out.size o
      by_cases h1 : day ≤ n
      · have HF2 : Hid ((l.take (k + 1)).filter (fun e => decide (e.day ≤ n)) = fs ++ [⟨id2, item, kind, qty, price, ofI, day⟩]) := by
          have := HF.out
          rw [if_pos (by simpa using h1)] at this
          exact this
        go_wp2_with (first
          | (at_builtin; refine wpList_append_own _ rfl _ _ 59 rfl w1.heap.size 44 i0 evZ 7 64 Tryz.underlying59 hi hz0 hz1 hz2 rfl (by decide) _ _ _ rfl ((HO.out.alloc _).alloc _) ⟨wr.heap.size + 1, 0, none⟩ 1 1 (evC ⟨id2, item, kind, qty, price, ofI, day⟩) rfl rfl ?c1 ?c2 ?c3 ?c4 ?c5 ?_)
          | go_in)
        case c1 => exact fun _ _ h => h
        case c2 => exact evC_one _
        case c3 => unfold maxLen; omega
        case c4 => omega
        case c5 => have := HB.out.size; simp; omega
        intro v' w2 hown2 hgr _
        have HB3 : Hid (Below w1.heap.size w1 w2) := ((HB2.out _).alloc (HB2.out _).size _).grown hgr (by have := HB.out.size; simp; omega) (fun j hj => (HO.out.lt j hj).1)
        have HO3 : Hid (w2.ownsRow w1.heap.size 44 7 v' (fs.length + 1) (fs.flatMap evC ++ evC ⟨id2, item, kind, qty, price, ofI, day⟩)) := hown2
        clear hown2 hgr
        go_wp2
        go_roundw
        case rel =>
          refine ⟨k + 1, by omega, by go_num, ?_, HB3⟩
          rw [HF2.out, flatMap_snoc, List.length_append]
          exact HO3.out
        case measure => simp [intOf]; omega
      · have HF2 : Hid ((l.take (k + 1)).filter (fun e => decide (e.day ≤ n)) = fs) := by
          have := HF.out
          rw [if_neg (by simpa using h1), List.append_nil] at this
          exact this
        go_wp2
        go_roundw
        case rel =>
          refine ⟨k + 1, by omega, by go_num, ?_, HB2.out _⟩
          rw [HF2.out]
          exact HO.out.alloc _
        case measure => simp [intOf]; omega
    · obtain rfl : k = l.length := by omega
      have hkz : ¬ (l.length : Int) < (l.length : Int) := by omega
      have HBW : Hid (Below w.heap.size w wr) := HB1.out.trans (HB.out.mono hs1)
      have hLl : L.length ≤ 200 := by rw [← HLL.out]; exact Nat.le_trans (List.length_filter_le _ _) hll
      rw [List.take_length, HLL.out] at HO
      have HOw := HO.out
      obtain ⟨ao, cpo, hv, hEC⟩ := (EvsAt.of_own HOw).toC
      subst hv
      have hrun := refRun_any L ao cpo wr hEC HWE.out hLl (HG.out.below HBW.out)
      clear HOw hEC
      go_wp2_with fail
      refine hrun.mono ?_
      rintro r w2 ⟨rv, rfl, hres, hb2⟩
      clear hrun
      obtain ⟨u, mb, nn, D, V, rfl, hmb, hVb, hR⟩ := hres
      obtain ⟨M, hM⟩ : ∃ M, M = goS stk00 (ordd L) := ⟨_, rfl⟩
      have hok : ∀ x, StkOK 10000 (M x) := fun x => by
        have h1 := (goS_ok (ordd L) 0 stk00 (fun y => stk0_ok 0) (ordd_rt L)).1 x
        rw [hM]
        exact h1.more (by have := ordd_len L; omega)
      have hfew : ∀ S : List ByteArray, S.Nodup → (∀ x ∈ S, (M x).ys ≠ []) → S.length ≤ 200 := fun S hn hm => by
        have h1 := nodup_le S ((ordd L).map (·.item)) hn (fun x hx => by
          have h2 := hm x hx
          rw [hM] at h2
          obtain ⟨e, he, e2⟩ := some_item h2
          exact List.mem_map.2 ⟨e, he, e2⟩)
        rw [List.length_map] at h1
        have := ordd_len L
        omega
      rw [← hM] at hR
      obtain ⟨ls, hls⟩ : ∃ ls, ls = goL stk00 (ordd L) := ⟨_, rfl⟩
      rw [← hls] at hR
      obtain ⟨adu, cu, hvu⟩ := own_lenN hR.own
      subst hvu
      obtain ⟨W3, hW3⟩ : ∃ W, W = w2.alloc (.cells #[.slice adu ls.length cu, .map (some mb)] 138) := ⟨_, rfl⟩
      obtain ⟨W4, hW4⟩ : ∃ W, W = W3.alloc (.cells #[.slice none 0 0] 100) := ⟨_, rfl⟩
      have hb3 : Below w2.heap.size w2 W3 := by rw [hW3]; exact (Below.refl _ _).alloc (Nat.le_refl _) _
      have hb4 : Below W3.heap.size W3 W4 := by rw [hW4]; exact (Below.refl _ _).alloc (Nat.le_refl _) _
      have hr0 : W3.cell? ⟨w2.heap.size, 0, none⟩ = some (.slice adu ls.length cu) := by rw [hW3]; simp
      have hr1 : W3.cell? ⟨w2.heap.size, 1, none⟩ = some (.map (some mb)) := by rw [hW3]; simp
      have hs3 : W3.heap.size = w2.heap.size + 1 := by rw [hW3]; simp
      have hT4 : HoAt W4 W3.heap.size (.slice none 0 0) ([] : List Hld) := by
        rw [hW4]
        exact ⟨Boxed.new W3 _ _, World.ownsRow_nil _ _ _ _⟩
      obtain ⟨rb, hrb⟩ : ∃ r, r = w2.heap.size := ⟨_, rfl⟩
      obtain ⟨ob, hob⟩ : ∃ r, r = W3.heap.size := ⟨_, rfl⟩
      rw [← hrb] at hr0 hr1 hs3
      rw [← hob] at hT4 hs3
      have HR3 : Hid (RunRes _ W3 mb nn D V M _ ls) := hR.below hb3
      have HR0 := hidE hr0
      have HR1 := hidE hr1
      have hmraw : ((w2.alloc (.cells #[.slice adu ls.length cu, .map (some mb)] 138)).alloc (.cells #[.slice none 0 0] 100)).ownsMap Tryz.prog 9 heldE mb nn D := by
        rw [← hW3, ← hW4]
        exact ((hR.below hb3).below hb4).map
      have hB3 : Below w.heap.size w W3 := (HBW.out.trans (hb2.mono HBW.out.size)).trans (hb3.mono (HBW.out.trans (hb2.mono HBW.out.size)).size)
      have HB3 := hidE hB3
      have hB4 : Below ob W3 W4 := by rw [hob]; exact hb4
      have HSO : Hid (w.heap.size ≤ ob) := by show _ ≤ _; rw [hob]; exact hB3.size
      have HT4 := hidE hT4
      have HMM : Hid (M = goS stk00 (ordd L)) := hM
      have HW3 := hidE hW3
      have HW4 := hidE hW4
      have HRB := hidE hrb
      have HOB := hidE hob
      have HOK := hidE hok
      have HFEW := hidE hfew
      have HMR := hidE hmraw
      have HB4 := hidE hB4
      have HHAS : Hid (∀ x, has D (keyB x) = true ↔ (M x).ys ≠ []) := res_has (hR.below hb3)
      have HS4 : Hid (W4.heap.size = w2.heap.size + 1 + 1) := by show _ = _; rw [hW4, hW3]; simp
      have HOB1 : Hid (ob = rb + 1) := hs3
      clear hb2 hR hM hW3 hW4 hb3 hb4 hr0 hr1 hT4 hB3 hB4 hrb hob hls hok hfew hVb HB1 HB HBW HO1 HO HLL HWE hmraw hs3
      go_wp2_with (first
        | (at_range; refine wpList_range_own _ rfl _ 136 rfl 9 194 law_strT Tryz.underlying136 heldE mb nn D rfl HMR.out ?_)
        | go_in)
      intro wR hrg0 hg0 hsR
      rw [← HW3.out, ← HW4.out] at hg0
      obtain ⟨ib, hib0⟩ : ∃ i, i = w2.heap.size + 1 + 1 := ⟨_, rfl⟩
      have hib : ib = W4.heap.size := by rw [hib0, HS4.out]
      rw [← hib0] at hrg0
      rw [← hib0, ← HRB.out, ← HOB1.out]
      clear hib0
      have HG0 : Hid (wR.ranges Tryz.prog 9 heldE mb ib nn D (Maps.has D) (Maps.size D)) := hrg0
      have hB4R : Below W4.heap.size W4 wR := ⟨hg0.os, hg0.tape, hg0.output, hg0.size, fun j hj => hg0.block j hj (by simp)⟩
      have HBR : Hid (Below ob W3 wR) := HB4.out.trans (hB4R.mono (by have := HT4.out.box.lt; omega))
      have HTR : Hid (HoAt wR ob (.slice none 0 0) ([].map (hOf M))) := HT4.out.below hB4R
      have hobi : ob < ib := by rw [hib]; exact HT4.out.box.lt
      clear hrg0 hg0 hsR hB4R hib HMR HW3 HW4 HRB HT4 HB4
      go_wp2
      go_loopw [] (fun wr => ∃ (left : Lit → Bool) (cnt : Nat) (S : List ByteArray) (ov : Value), Hid (Seen D left S) ∧ Hid (∀ x ∈ S, (M x).ys ≠ []) ∧ Hid (wr.ranges Tryz.prog 9 heldE mb ib nn D left cnt) ∧ Hid (HoAt wr ob ov (S.map (hOf M))) ∧ Hid (Below ob W3 wr)) (fun wr => wr.rangeLeft mb ib)
      case atStart => exact ⟨_, _, [], _, seen_zero D, fun x h => absurd h List.not_mem_nil, HG0, HTR, HBR⟩
      case round =>
        obtain ⟨left, cnt, S, ov, HSN, HNE, HR, HT, HBr⟩ := hrel
        obtain ⟨wq, hwq⟩ : ∃ W, W = wr := ⟨_, rfl⟩
        go_wp2_with (at_next; refine wpList_next_ranges _ rfl _ rfl 9 law_strT heldE Value.string (fun c : Value => c) (fun key kl hkey => by obtain ⟨s, hs⟩ := Maps.keyOf_string_inv Tryz.underlying9 hkey; exact ⟨s, hs⟩) (fun v y _ => ⟨v, rfl⟩) mb ib nn D left cnt rfl HR.out ?_ ?_)
        · intro hcz hlz
          have hK : Hid (∀ x, x ∈ S ↔ (M x).ys ≠ []) := fun x => ⟨HNE.out x, fun hx => by
            rcases HSN.out.all x ((HHAS.out x).2 hx) with h1 | h1
            · rw [hlz] at h1; cases h1
            · exact h1⟩
          have hS2 := HFEW.out S HSN.out.nd HNE.out
          have cb := HT.out.box.cell
          obtain ⟨ao2, no, co, hov⟩ := own_lenK HT.out.row
          subst hov
          have hso := (sortsH (enters_of Tryz.func87 (by kernel_rfl) rfl) lessAt) wr ob (.slice ao2 no co) (S.map (hOf M)) HT.out (by rw [List.length_map]; omega)
          clear hcz hlz
          go_wp2_with fail
          refine hso.mono ?_
          rintro r w9 ⟨rfl, out9, hp9, hs9, ht9, hb9⟩
          have cb9 := ht9.box.cell
          have HF : Hid (∃ ks : List ByteArray, Keys (fun x => (M x).ys ≠ []) ks ∧ w9.ownsRow w.heap.size 103 3 (.slice ao2 no co) ks.length (ks.flatMap (holdC M)) ∧ Below w.heap.size w w9) := by
            obtain ⟨ks, hks, hout⟩ := hold_keys hp9 HSN.out.nd hK.out hs9
            refine ⟨ks, hks, ?_, ?_⟩
            · have h1 := own_below ht9.row (Below.refl _ _) HSO.out
              rw [hout, hOf_flat, List.length_map] at h1
              exact h1
            · exact HB3.out.trans ((HBr.out.trans hb9).mono HSO.out)
          clear hso hp9 hs9 ht9 hb9 cb
          go_wp2
          go_ret
          obtain ⟨ks, h1, h2, h3⟩ := HF.out
          rw [HMM.out] at h1 h2
          exact ⟨_, ks, rfl, h1, h2, h3⟩
        · intro x c kl yd yp w5 cnt2 hkey hlk hcv hat hrg2 hlt2 hgr2 hsz2 hen
          obtain ⟨rfl, hxs⟩ := key_inv hkey
          have hne := HT.out.ranged HR.out
          have HT5 : Hid (HoAt w5 ob ov (S.map (hOf M))) := HT.out.grown hgr2 hne.2.1 hne.2.2.2
          have HR5 : Hid (w5.ranges Tryz.prog 9 heldE mb ib nn D (fun z => left z && !z.sameKey (keyB x)) cnt2) := hrg2
          have hB5 : Below ob W3 w5 := HBr.out.grown hgr2 (by have := HR.out.lt; omega) (fun j hj => by cases hj; omega)
          have HLV : Hid (wr.rangeLeft mb ib = cnt) := HR.out.left_eq
          have HSN2 : Hid (Seen D (fun z => left z && !z.sameKey (keyB x)) (S ++ [x])) := HSN.out.step hlk
          have hxe : (M x).ys ≠ [] := (HHAS.out x).1 (has_true_of_atKey hat)
          have HNE2 : Hid (∀ z ∈ S ++ [x], (M z).ys ≠ []) := fun z hz => by
            rcases List.mem_append.1 hz with h1 | h1
            · exact HNE.out z h1
            · rw [List.mem_singleton] at h1; rw [h1]; exact hxe
          have HSL : Hid (S.length ≤ 200) := HFEW.out S HSN.out.nd HNE.out
          have hB5' : Below W3.heap.size W3 w5 := by rw [← HOB.out]; exact hB5
          have f0 := (hB5.cell (p := ⟨rb, 0, none⟩) (by show rb < ob; have := HOB1.out; omega)).trans HR0.out
          have f1 := (hB5.cell (p := ⟨rb, 1, none⟩) (by show rb < ob; have := HOB1.out; omega)).trans HR1.out
          have hsum := refSumR (HR3.out.below hB5') x hxs (HOK.out x) (Nat.le_refl _)
          have HB5 := hidE hB5
          clear hrg2 hat hcv hlk hkey hgr2 hB5 hB5' hsz2 hne hxe HT HBr HSN HNE
          go_wp2_with fail
          refine hsum.mono ?_
          rintro r w6 ⟨rfl, hb6⟩
          have HT6 : Hid (HoAt w6 ob ov (S.map (hOf M))) := HT5.out.below hb6
          have HR6 : Hid (w6.ranges Tryz.prog 9 heldE mb ib nn D (fun z => left z && !z.sameKey (keyB x)) cnt2) := ranges_on HR5.out hb6
          have HB6 : Hid (Below ob W3 w6) := HB5.out.trans (hb6.mono (by have := HT5.out.box.lt; omega))
          have cb := HT6.out.box.cell
          have hfb := HT6.out.box.frozen
          have hwl2 : ob < w6.heap.size := HT6.out.box.lt
          have hwl : ob ≤ w6.heap.size := by omega
          have hrow6 := HT6.out.row
          have hlm : (S.map (hOf M)).length ≤ 200 := by rw [List.length_map]; exact HSL.out
          obtain ⟨ao2, no, co, hov⟩ := own_lenK HT6.out.row
          subst hov
          clear hsum hb6 f0 f1 HT5 HB5
          go_wp2_with (first
            | (at_builtin; refine wpList_append_own _ rfl _ _ 100 rfl ob 103 j0 rhoZ 3 32 Tryz.underlying100 ji jz0 jz1 jz2 rfl (by decide) (.slice ao2 no co) _ _ rfl (hrow6.alloc _) ⟨w6.heap.size, 0, none⟩ 1 1 (rhC (hOf M x)) rfl rfl ?d1 ?d2 ?d3 ?d4 ?d5 ?_)
            | go_in)
          case d1 => simpa [rhC, hOf] using cells_of_list (w := w6) (cs := rhC (hOf M x)) (T := 103) rfl
          case d2 => exact rhC_one _
          case d3 => unfold maxLen; omega
          case d4 => omega
          case d5 => first | omega | (simp; omega)
          intro v7 w7 hown7 hgr7 _
          obtain ⟨a7, n7, c7, hv7⟩ := own_lenK hown7
          subst hv7
          obtain ⟨b7, b8, o8, _, bl8⟩ := Boxed.appended (n₀ := ob) (tmp := .cells #[.string x, .int .i64 (sumQ (M x).ys), .int .i64 (sumV (M x).ys)] 103) HT6.out.box (by decide) hrow6 hwl (Nat.le_refl _) hown7 hgr7
          have hne6 := HT6.out.ranged HR6.out
          have cb7 := b7.cell
          have fb7 := b7.frozen
          obtain ⟨W8, hW8⟩ : ∃ X, X = w7.setCell ⟨ob, 0, none⟩ (.slice a7 n7 c7) := ⟨_, rfl⟩
          have HR8 : Hid (W8.ranges Tryz.prog 9 heldE mb ib nn D (fun z => left z && !z.sameKey (keyB x)) cnt2) := by
            rw [hW8]
            exact ((HR6.out.alloc _).kept hgr7 hne6.2.2.1 hne6.2.2.2).kept (grownBy_setCell' _ _ _) (by simpa using hne6.1) (by simpa using hne6.2.1)
          rw [← hW8] at b8 o8 bl8
          have HT8 : Hid (HoAt W8 ob (.slice a7 n7 c7) ((S ++ [x]).map (hOf M))) := by
            refine ⟨b8, ?_⟩
            rw [List.map_append, List.length_append, List.flatMap_append]
            simpa using o8
          have HB8 : Hid (Below ob W3 W8) := HB6.out.trans bl8
          have HW8 := hidE hW8
          clear hown7 hgr7 b7 b8 o8 bl8 hW8 hne6 cb hfb hrow6 HT6 HB6 HR6
          go_wp2_with fail
          rw [← HW8.out]
          go_roundw
          case rel => exact ⟨_, cnt2, S ++ [x], _, HSN2, HNE2, HR8, HT8, HB8⟩
          case measure =>
            rw [HLV.out, HR8.out.left_eq]
            exact hlt2
end Go.Proofs.YtcfgacdcgljbaaaGreatDoor
namespace Go.Proofs.YtcfgacdcgljbaaaGreatDoor
open Go.RowKit Go.Maps
theorem rmov_info : (Tryz.prog.info? 118).map (fun i => (i.zero, i.size, i.bytes)) = some (some movZ, 14, 120) := by kernel_rfl
theorem str_eqM {a b : ByteArray} : (a.toList == b.toList) = decide (a = b) := by
  rw [ByteArray.toList_eq, ByteArray.toList_eq, Bool.eq_iff_iff]
  simp only [beq_iff_eq, decide_eq_true_eq]
  exact ⟨fun e => ByteArray.ext (Array.toList_inj.1 e), fun e => by rw [e]⟩
theorem two_rows {w : World} {B1 B2 : Nat} {T1 T2 : TypeId} {m1 m2 n1 n2 : Nat} {v1 v2 : Value} {xs ys : List Value} (h1 : w.ownsRow B1 T1 m1 v1 n1 xs) (h2 : w.ownsRow B2 T2 m2 v2 n2 ys) (hT : T1 ≠ T2) : v1.ownBlock = none ∨ v1.ownBlock ≠ v2.ownBlock := by
  rcases h1.2 with ⟨hv, _⟩ | ⟨g, cap, cur, hv, _, hg, _⟩
  · exact Or.inl (by rw [hv]; rfl)
  · rcases h2.2 with ⟨hv2, _⟩ | ⟨g2, cap2, cur2, hv2, _, hg2, _⟩
    · exact Or.inr (by rw [hv, hv2]; simp [Value.ownBlock])
    · refine Or.inr fun e => ?_
      rw [hv, hv2] at e
      simp only [Value.ownBlock, Option.some.injEq] at e
      rw [e, hg2] at hg
      simp only [Option.some.injEq, Obj.cells.injEq] at hg
      exact hT hg.2.1.symm
theorem filter_take {α : Type} (p : α → Bool) (l : List α) (k : Nat) : (l.filter p).take ((l.take k).filter p).length = (l.take k).filter p := by
  have h : l.filter p = (l.take k).filter p ++ (l.drop k).filter p := by rw [← List.filter_append, List.take_append_drop]
  rw [h, List.take_left']
  rfl
set_option maxRecDepth 20000 in
set_option maxHeartbeats 8000000 in
theorem rmov_any {B pb : Nat} {sv : Value} {b : Bk} {w : World} (h : RAt w B pb sv b) (hl : b.vs.length ≤ 200) (x : ByteArray) (hxs : x.size ≤ maxLen) (t : Int) (L : List Ev) (hL : ∀ l : List Ev, l.Perm (asOf b (tR b t)) → (l.Pairwise fun x y => ltOf cmpE y x = false) → l.filter (fun e => decide (e.item = x)) = L) (hw : ∀ e ∈ L, EvW e) (hr : ∀ e ∈ L, Rt e) (hg : TabG w) :
    Calls Tryz.prog 38 #[.pointer (some ⟨pb, 0, none⟩), .string x, .int .i64 t] w fun r w' => ∃ u : Value, r = .returned u ∧ w'.ownsRow w.heap.size 118 14 u L.length ((List.range L.length).flatMap (movC L x)) ∧ Below w.heap.size w w' := by
  obtain ⟨i0, hi, hz0, hz1, hz2⟩ := info_parts Tryz.infoEv
  obtain ⟨j0, ji, jz0, jz1, jz2⟩ := info_parts rmov_info
  have has := ras_any h (by omega) t
  have HG := hidE hg
  have HL := hidE hL
  have HWE := hidE hw
  have HRE := hidE hr
  have hlen : (asOf b (tR b t)).length ≤ 200 := by
    unfold asOf
    rw [List.length_map]
    exact Nat.le_trans (List.length_filter_le _ _) hl
  clear h hg hL hw hr
  go_enter Tryz.func38, Tryz.ntmps38
  go_wp2_with fail
  refine has.mono ?_
  rintro r w1 ⟨v1, l, rfl, hown1, hperm, hsrt, hb1⟩
  have HLL : Hid (l.filter (fun e => decide (e.item = x)) = L) := HL.out l hperm hsrt
  have hll : l.length ≤ 200 := by rw [hperm.length_eq]; exact hlen
  have hs1 := hb1.size
  have HB1 := hidE hb1
  have HO1 := hidE hown1
  obtain ⟨ad1, cp1, hv1⟩ := own_lenN hown1
  subst hv1
  clear has hperm hsrt HL hown1 hb1 hlen
  go_wp2
  go_loopw [7, 8, 18] (fun v u i wr => ∃ k : Nat, k ≤ l.length ∧ i = .int .i64 k ∧ Hid (wr.ownsRow w1.heap.size 44 7 v ((l.take k).filter fun e => decide (e.item = x)).length (((l.take k).filter fun e => decide (e.item = x)).flatMap evC)) ∧ Hid (wr.ownsRow w1.heap.size 118 14 u ((l.take k).filter fun e => decide (e.item = x)).length ((List.range ((l.take k).filter fun e => decide (e.item = x)).length).flatMap (movC L x))) ∧ Hid (Below w1.heap.size w1 wr)) (fun _ _ i _ => l.length - (intOf i).toNat)
  case atStart => exact ⟨0, Nat.zero_le _, rfl, World.ownsRow_nil _ _ _ _, World.ownsRow_nil _ _ _ _, Below.refl _ _⟩
  case round =>
    obtain ⟨k, hk, rfl, HO, HM, HB⟩ := hrel
    have hsw := HB.out.size
    by_cases hlt : k < l.length
    · have hkz : (k : Int) < (l.length : Int) := by omega
      rcases own_form HO1.out with ⟨_, x2, _⟩ | ⟨g, cp, x1, _, hgl, _⟩
      · rw [x2] at hlt; exact absurd hlt (Nat.not_lt_zero _)
      simp only [Value.slice.injEq] at x1
      obtain ⟨rfl, _, rfl⟩ := x1
      obtain ⟨y, hy⟩ : ∃ y, y = l[k] := ⟨_, rfl⟩
      have hcw : ∀ j, j < 7 → wr.cell? ⟨g, k * 7 + j, none⟩ = (evC y)[j]? := fun j hj => by
        rw [HB.out.cell (p := ⟨g, k * 7 + j, none⟩) hgl, (own_cell evC_len HO1.out k j hlt hj).1, hy]
      have HF : Hid ((l.take (k + 1)).filter (fun e => decide (e.item = x)) = (l.take k).filter (fun e => decide (e.item = x)) ++ if decide (y.item = x) then [y] else []) := by
        show _ = _
        rw [hy]; exact filter_snoc _ l k hlt
      have HTK : Hid (L.take ((l.take (k + 1)).filter (fun e => decide (e.item = x))).length = (l.take (k + 1)).filter (fun e => decide (e.item = x))) := by
        show _ = _
        rw [← HLL.out]; exact filter_take _ l (k + 1)
      have hfl : ((l.take k).filter (fun e => decide (e.item = x))).length + 1 ≤ 200 := by
        have h1 := List.length_filter_le (fun e : Ev => decide (e.item = x)) (l.take k)
        rw [List.length_take] at h1
        omega
      clear hy
      obtain ⟨fs, hfs⟩ : ∃ fs, fs = (l.take k).filter (fun e => decide (e.item = x)) := ⟨_, rfl⟩
      rw [← hfs] at HO HM hfl HF
      clear hfs
      have heq := str_eqM (a := y.item) (b := x)
      obtain ⟨ev, hev⟩ : ∃ e, e = y := ⟨_, rfl⟩
      obtain ⟨id2, item, kind, qty, price, ofI, day⟩ := y
      have q0 := hcw 0 (by omega)
      have q1 := hcw 1 (by omega)
      have q2 := hcw 2 (by omega)
      have q3 := hcw 3 (by omega)
      have q4 := hcw 4 (by omega)
      have q5 := hcw 5 (by omega)
      have q6 := hcw 6 (by omega)
      simp only [evC, List.getElem?_cons_zero, List.getElem?_cons_succ, Nat.add_zero] at q0 q1 q2 q3 q4 q5 q6
      clear hcw
      simp only at heq
      have HEV := hidE hev
      clear hev
      have HB2 : Hid (∀ o, Below w1.heap.size w1 (wr.alloc o)) := fun o => HB.out.alloc HB.out.size o
      by_cases h1 : item = x
      · have HF2 : Hid ((l.take (k + 1)).filter (fun e => decide (e.item = x)) = fs ++ [ev]) := by
          have := HF.out
          rw [if_pos (by simpa using h1), ← HEV.out] at this
          exact this
        have hb : (item.toList == x.toList) = true := by rw [heq]; simpa using h1
        have HXI := hidE h1
        clear heq HF h1
        have HUV : Hid _ := two_rows HM.out HO.out (by decide)
        go_wp2_with (first
          | (at_builtin; refine wpList_append_own _ rfl _ _ 59 rfl w1.heap.size 44 i0 evZ 7 64 Tryz.underlying59 hi hz0 hz1 hz2 rfl (by decide) _ _ _ rfl ((HO.out.alloc _).alloc _) ⟨wr.heap.size + 1, 0, none⟩ 1 1 (evC ⟨id2, item, kind, qty, price, ofI, day⟩) rfl rfl ?c1 ?c2 ?c3 ?c4 ?c5 ?_)
          | go_in)
        case c1 => first | exact fun _ _ h => h | exact cells_of_list (w := wr.alloc _) (b := wr.heap.size + 1) (by simp)
        case c2 => exact evC_one _
        case c3 => unfold maxLen; omega
        case c4 => omega
        case c5 => have := HB.out.size; simp; omega
        intro v' w2 hown2 hgr _
        have hb12 : Below w1.heap.size w1 w2 := ((HB2.out _).alloc (HB2.out _).size _).grown hgr (by have := HB.out.size; simp; omega) (fun j hj => (HO.out.lt j hj).1)
        have hm2 : w2.ownsRow w1.heap.size 118 14 u8 fs.length ((List.range fs.length).flatMap (movC L x)) := ((HM.out.alloc _).alloc _).kept hgr HUV.out
        obtain ⟨T, hT⟩ : ∃ T, T = fs ++ [ev] := ⟨_, rfl⟩
        have hTl : T.length = fs.length + 1 := by rw [hT]; simp
        have ho2 : w2.ownsRow w1.heap.size 44 7 v' T.length (T.flatMap evC) := by
          rw [hTl, hT, List.flatMap_append, HEV.out]
          simpa using hown2
        have hnb : ∀ j, u7.ownBlock = some j → j < wr.heap.size := fun j hj => (HO.out.lt j hj).2
        have hec : ∀ j (c : Value), (evC ev)[j]? = some c → w2.cell? ⟨wr.heap.size, j, none⟩ = some c := fun j c hj => by
          refine (World.cell?_of_block (a := ⟨wr.heap.size, j, none⟩) (hgr.block _ (by simp; omega) (fun e => absurd (hnb _ e.symm) (Nat.lt_irrefl _)))).trans ?_
          have h2 : (wr.alloc (.cells (evC ev).toArray 44)).cell? ⟨wr.heap.size, j, none⟩ = some c := by
            simp [hj]
          rw [HEV.out] at h2
          exact below_cell ((Below.refl _ _).alloc (Nat.le_refl _) _) h2
        have hTL : L.take T.length = T := by
          have h2 := HTK.out
          rw [HF2.out, ← hT] at h2
          exact h2
        have hTm : ∀ e ∈ T, e ∈ L := fun e he => by rw [← hTL] at he; exact List.mem_of_mem_take he
        obtain ⟨ao, cpo, hv, hEC⟩ := (EvsAt.of_own ho2).toC
        subst hv
        have hB2w : Below w.heap.size w w2 := HB1.out.trans (hb12.mono hs1)
        have hrun := refRun_any T ao cpo w2 hEC (fun e he => HWE.out e (hTm e he)) (by omega) (HG.out.below hB2w)
        have hor : (ordd T).length = fs.length + 1 := by rw [ordd_stl (fun e he => HRE.out e (hTm e he)), stl_len, hTl]
        have HEC := hidE hec
        have HTE := hidE hT
        have HTL := hidE hTl
        have HTT := hidE hTL
        have HOR := hidE hor
        have HB12 := hidE hb12
        have HM2 := hidE hm2
        have HO2 := hidE ho2
        clear hown2 hgr hb12 hm2 hT hTl ho2 hnb hec hTL hTm hEC hB2w hor HUV HO HM q0 q1 q2 q3 q4 q5 q6 hb
        go_wp2_with fail
        refine hrun.mono ?_
        rintro r w6 ⟨rv, rfl, hres, hb6⟩
        obtain ⟨u, mb, nn, D, V, rfl, hmb, hVb, hR⟩ := hres
        obtain ⟨ls, hls⟩ : ∃ ls, ls = goL stk00 (ordd T) := ⟨_, rfl⟩
        obtain ⟨M, hM⟩ : ∃ M, M = goS stk00 (ordd T) := ⟨_, rfl⟩
        rw [← hls, ← hM] at hR
        have hlsl : ls.length = fs.length + 1 := by rw [hls, goL_len, HOR.out]
        have hok : StkOK 10000 (M x) := by
          have h1 := (goS_ok (ordd T) 0 stk00 (fun y => stk0_ok 0) (ordd_rt T)).1 x
          rw [hM]
          exact h1.more (by rw [HOR.out]; omega)
        obtain ⟨gu, cu, hvu, hgu⟩ : ∃ gu cu, u = .slice (some ⟨gu, 0, none⟩) ls.length cu ∧ gu < w6.heap.size := by
          rcases own_form hR.own with ⟨_, e2, _⟩ | ⟨gu, cu, e1, _, h4, _, _⟩
          · rw [e2] at hlsl; exact absurd hlsl (by omega)
          · exact ⟨gu, cu, e1, h4⟩
        subst hvu
        have hkl : fs.length < ls.length := by omega
        have l0 := (own_cell linC_len hR.own fs.length 0 hkl (by omega)).1
        have l1 := (own_cell linC_len hR.own fs.length 1 hkl (by omega)).1
        have l2 := (own_cell linC_len hR.own fs.length 2 hkl (by omega)).1
        have l3 := (own_cell linC_len hR.own fs.length 3 hkl (by omega)).1
        have l4 := (own_cell linC_len hR.own fs.length 4 hkl (by omega)).1
        obtain ⟨ln, hln⟩ : ∃ y, y = ls[fs.length] := ⟨_, rfl⟩
        rw [← hln] at l0 l1 l2 l3 l4
        simp only [linC, List.getElem?_cons_zero, List.getElem?_cons_succ, Nat.add_zero] at l0 l1 l2 l3 l4
        obtain ⟨W7, hW7⟩ : ∃ W, W = w6.alloc (.cells #[.slice (some ⟨gu, 0, none⟩) ls.length cu, .map (some mb)] 138) := ⟨_, rfl⟩
        have hb7 : Below w6.heap.size w6 W7 := by rw [hW7]; exact (Below.refl _ _).alloc (Nat.le_refl _) _
        have hR7 := hR.below hb7
        have r0 : W7.cell? ⟨w6.heap.size, 0, none⟩ = some (.slice (some ⟨gu, 0, none⟩) ls.length cu) := by rw [hW7]; simp
        have hb27 : Below w2.heap.size w2 W7 := hb6.trans (hb7.mono hb6.size)
        have hsum := refSumR hR7 x hxs hok (Nat.le_refl _)
        have HL6 := hidE (And.intro (below_cell hb7 l0) (And.intro (below_cell hb7 l1) (And.intro (below_cell hb7 l2) (And.intro (below_cell hb7 l3) (below_cell hb7 l4)))))
        have HR0 := hidE r0
        have HB27 := hidE hb27
        have HW7 := hidE hW7
        have HLS := hidE hls
        have HMM := hidE hM
        have HLN := hidE hln
        have HSUM := hidE hsum
        have HLSL := hidE hlsl
        clear hrun hb6 hb7 hR hR7 hb27 hW7 hls hM hok hmb hVb r0 hsum l0 l1 l2 l3 l4 hln hlsl
        go_wp2_with fail
        rw [← HW7.out]
        refine HSUM.out.mono ?_
        rintro r w8 ⟨rfl, hb8⟩
        have hb28 : Below w2.heap.size w2 w8 := HB27.out.trans (hb8.mono HB27.out.size)
        have e0 := below_cell hb28 (HEC.out 0 (.int .i64 id2) (by rw [HEV.out]; rfl))
        have e1 := below_cell hb28 (HEC.out 1 (.string item) (by rw [HEV.out]; rfl))
        have e2 := below_cell hb28 (HEC.out 2 (.int .i64 kind) (by rw [HEV.out]; rfl))
        have e3 := below_cell hb28 (HEC.out 3 (.int .i64 qty) (by rw [HEV.out]; rfl))
        have e4 := below_cell hb28 (HEC.out 4 (.int .i64 price) (by rw [HEV.out]; rfl))
        have e5 := below_cell hb28 (HEC.out 5 (.int .i64 ofI) (by rw [HEV.out]; rfl))
        have e6 := below_cell hb28 (HEC.out 6 (.int .i64 day) (by rw [HEV.out]; rfl))
        have l0 := below_cell hb8 HL6.out.1
        have l1 := below_cell hb8 HL6.out.2.1
        have l2 := below_cell hb8 HL6.out.2.2.1
        have l3 := below_cell hb8 HL6.out.2.2.2.1
        have l4 := below_cell hb8 HL6.out.2.2.2.2
        have r0 := below_cell hb8 HR0.out
        have hB8 : Below w1.heap.size w1 w8 := HB12.out.trans (hb28.mono HB12.out.size)
        have hown : w8.ownsRow w1.heap.size 118 14 u8 fs.length ((List.range fs.length).flatMap (movC L x)) := own_below HM2.out hb28 (Nat.le_refl _)
        have HO8 : Hid (w8.ownsRow w1.heap.size 44 7 (.slice ao T.length cpo) T.length (T.flatMap evC)) := own_below HO2.out hb28 (Nat.le_refl _)
        obtain ⟨ad3, n3, cp3, hv3⟩ := own_lenK hown
        subst hv3
        have HB8 := hidE hB8
        have hs8 := hB8.size
        clear HSUM HEC HL6 HR0 hB8 hb8 hb28 HM2 HO2
        have hkl2 : (fs.length : Int) < ls.length := by omega
        have hTT := HTL.out
        have hT1 : (T.length : Int) - 1 = fs.length := by omega
        have hwT : wrap64 ((T.length : Int) - 1) = fs.length := by rw [hT1]; unfold wrap64; omega
        clear hTT hT1
        go_wp2_with fail
        refine wp_region_turn [(.pure, 0), (.read, 1), (.pure, 2), (.read, 3), (.pure, 4), (.pure, 9), (.pure, 10), (.make, 5), (.pure, 6), (.pure, 7), (.read, 8), (.pure, 11), (.make, 12), (.turn, 13), (.pure, 14)] (by kernel_rfl) (by kernel_rfl) ?_
        obtain ⟨W9, hW9⟩ : ∃ W, W = w8.drew := ⟨_, rfl⟩
        rw [← hW9]
        have hb9 : Below w8.heap.size w8 W9 := by rw [hW9]; exact below_drew _
        have hU := up_ne
        have hA := anyW_ne
        have f0 := fun n : Up W9 => n.cell (below_cell hb9 e0)
        have f1 := fun n : Up W9 => n.cell (below_cell hb9 e1)
        have f2 := fun n : Up W9 => n.cell (below_cell hb9 e2)
        have f3 := fun n : Up W9 => n.cell (below_cell hb9 e3)
        have f4 := fun n : Up W9 => n.cell (below_cell hb9 e4)
        have f5 := fun n : Up W9 => n.cell (below_cell hb9 e5)
        have f6 := fun n : Up W9 => n.cell (below_cell hb9 e6)
        have m0 := fun n : Up W9 => n.cell (below_cell hb9 l0)
        have m1 := fun n : Up W9 => n.cell (below_cell hb9 l1)
        have m2 := fun n : Up W9 => n.cell (below_cell hb9 l2)
        have m3 := fun n : Up W9 => n.cell (below_cell hb9 l3)
        have m4 := fun n : Up W9 => n.cell (below_cell hb9 l4)
        have q0 := fun n : Up W9 => n.cell (below_cell hb9 r0)
        have hown9 := own_below hown hb9 (Nat.le_refl _)
        have HO9 : Hid (W9.ownsRow w1.heap.size 44 7 (.slice ao T.length cpo) T.length (T.flatMap evC)) := own_below HO8.out hb9 (Nat.le_refl _)
        have HB9 : Hid (Below w1.heap.size w1 W9) := HB8.out.trans (hb9.mono hs8)
        have hs9 := HB9.out.size
        clear hW9 hb9 e0 e1 e2 e3 e4 e5 e6 l0 l1 l2 l3 l4 r0 hown HO8
        repeat (first | refine turn_p rfl ?_ | refine turn_q rfl ?_); go_big_quiet_step (fail); refine wpQuiet_nil ?_
        refine turn_n rfl ?_
        go_wp2_with fail
        refine ⟨rfl, Below.refl _ _, ?_⟩
        repeat (first | refine turn_p rfl ?_ | refine turn_q rfl ?_); go_big_quiet_step (fail); refine wpQuiet_nil ?_
        refine turn_n rfl ?_
        go_wp2_with fail
        refine ⟨rfl, (Below.refl _ _).alloc (Nat.le_refl _) _, ?_⟩
        clear f0 f1 f2 f3 f4 f5 f6 m0 m1 m2 m3 m4 q0
        refine turn_t rfl ?_
        refine wpList_append_own _ rfl _ _ 111 rfl w1.heap.size 118 j0 movZ 14 120 Tryz.underlying111 ji jz0 jz1 jz2 rfl (by decide) (.slice ad3 n3 cp3) _ _ rfl (hown9.alloc _) ⟨W9.heap.size, 0, none⟩ 1 1 (evC ⟨id2, item, kind, qty, price, ofI, day⟩ ++ linC ln ++ [.int .i64 (sumQ (M x).ys), .int .i64 (sumV (M x).ys)]) rfl rfl ?d1 ?d2 ?d3 ?d4 ?d5 ?_
        case d1 => exact cells_of_list rfl
        case d2 =>
          intro u hu
          simp only [List.mem_append, List.mem_cons, List.not_mem_nil, or_false] at hu
          rcases hu with (hu | hu) | rfl | rfl
          · exact evC_one _ u hu
          · exact linC_one _ u hu
          · rfl
          · rfl
        case d3 => unfold maxLen; omega
        case d4 => omega
        case d5 => first | omega | (simp; omega)
        intro v' w10 hown10 hg10 _
        obtain ⟨ad5, nn5, cp5, hv5⟩ := own_lenK hown10
        subst hv5
        have HB10 : Hid (Below w1.heap.size w1 w10) := by
          have b1 : Below w1.heap.size w1 (W9.alloc (.cells (evC ⟨id2, item, kind, qty, price, ofI, day⟩ ++ linC ln ++ [Value.int .i64 (sumQ (M x).ys), Value.int .i64 (sumV (M x).ys)]).toArray 118)) := HB9.out.alloc hs9 _
          exact b1.grown hg10 b1.size (fun j hj => (hown9.lt j hj).1)
        have HO10 : Hid (w10.ownsRow w1.heap.size 44 7 (.slice ao T.length cpo) T.length (T.flatMap evC)) := (HO9.out.alloc _).kept hg10 (two_rows HO9.out hown9 (by decide))
        have HMC : Hid (movC L x fs.length = evC ⟨id2, item, kind, qty, price, ofI, day⟩ ++ linC ln ++ [.int .i64 (sumQ (M x).ys), .int .i64 (sumV (M x).ys)]) := by
          show _ = _
          unfold movC
          have h2 := HTT.out
          rw [HTL.out] at h2
          have h3 : L[fs.length]? = some ev := by
            have h4 : (L.take (fs.length + 1))[fs.length]? = some ev := by rw [h2, HTE.out]; simp
            rw [List.getElem?_take] at h4
            simpa using h4
          rw [h2, h3, ← HMM.out, ← HLS.out, List.getElem?_eq_getElem hkl, ← HLN.out, HEV.out]
          rfl
        have HM10 : Hid (w10.ownsRow w1.heap.size 118 14 (.slice ad5 nn5 cp5) (fs.length + 1) ((List.range (fs.length + 1)).flatMap (movC L x))) := by
          show w10.ownsRow _ _ _ _ _ _
          rw [List.range_succ, List.flatMap_append]
          simp only [List.flatMap_cons, List.flatMap_nil, List.append_nil]
          rw [HMC.out]
          exact hown10
        clear hown10 hg10 hown9
        go_wp2_with fail
        refine ⟨rfl, ?_⟩
        repeat (first | refine turn_p rfl ?_ | refine turn_q rfl ?_); go_big_quiet_step (fail); refine wpQuiet_nil ?_
        refine turn_nil ?_
        go_wp2
        go_roundw
        case rel =>
          refine ⟨k + 1, by omega, by go_num, ?_, ?_, HB10⟩
          · rw [HF2.out, ← HTE.out]
            exact HO10
          · rw [HF2.out, ← HTE.out, HTL.out]
            exact HM10
        case measure => simp [intOf]; omega
      · have HF2 : Hid ((l.take (k + 1)).filter (fun e => decide (e.item = x)) = fs) := by
          have := HF.out
          rw [if_neg (by simpa using h1), List.append_nil] at this
          exact this
        have hb : (item.toList == x.toList) = false := by rw [heq]; simpa using h1
        go_wp2
        go_roundw
        case rel =>
          refine ⟨k + 1, by omega, by go_num, ?_, ?_, HB2.out _⟩
          · rw [HF2.out]
            exact HO.out.alloc _
          · rw [HF2.out]
            exact HM.out.alloc _
        case measure => simp [intOf]; omega
    · obtain rfl : k = l.length := by omega
      have hkz : ¬ (l.length : Int) < (l.length : Int) := by omega
      rw [List.take_length, HLL.out] at HM
      obtain ⟨ad3, n3, cp3, hv3⟩ := own_lenK HM.out
      subst hv3
      have HF : Hid (wr.ownsRow w.heap.size 118 14 (.slice ad3 n3 cp3) L.length ((List.range L.length).flatMap (movC L x)) ∧ Below w.heap.size w wr) := ⟨own_below HM.out (Below.refl _ _) hs1, HB1.out.trans (HB.out.mono hs1)⟩
      go_wp2
      go_ret
      exact ⟨_, rfl, HF.out.1, HF.out.2⟩
end Go.Proofs.YtcfgacdcgljbaaaGreatDoor
