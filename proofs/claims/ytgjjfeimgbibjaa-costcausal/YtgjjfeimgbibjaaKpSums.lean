/- The walk of tallymankeep.sums. -/
import Derived.Test.YtgjjfeimgbibjaaKpDel
namespace Go.Proofs.Ytgjjfeimgbibjaa
open Go.RowKit Go.Shelf
/-- in, out, loss, gain. -/
structure Four where
  i : Int
  o : Int
  l : Int
  g : Int
def smS (es : List Ev) (a : Four) (y : Lin) : Four :=
  match es.find? fun e => decide (e.id = y.id) with
  | none => a
  | some e => if e.kind = 1 ∨ e.kind = 2 then { a with i := a.i + y.val } else if e.kind = 3 then { a with o := a.o + y.val } else if y.gain then { a with g := a.g + y.val } else { a with l := a.l + y.val }
def smF (es : List Ev) (ls : List Lin) : Four := ls.foldl (smS es) ⟨0, 0, 0, 0⟩
theorem smF_snoc (es : List Ev) (ls : List Lin) (k : Nat) (hk : k < ls.length) : smF es (ls.take (k + 1)) = smS es (smF es (ls.take k)) ls[k] := by
  unfold smF; rw [List.take_succ_eq_append_getElem hk, List.foldl_append]; rfl
def FourB (n : Nat) (a : Four) : Prop := (0 ≤ a.i ∧ a.i ≤ n * 10000000000000) ∧ (0 ≤ a.o ∧ a.o ≤ n * 10000000000000) ∧ (0 ≤ a.l ∧ a.l ≤ n * 10000000000000) ∧ (0 ≤ a.g ∧ a.g ≤ n * 10000000000000)
theorem smS_b {es : List Ev} {a : Four} {y : Lin} {n : Nat} (h : FourB n a) (h0 : 0 ≤ y.val) (h1 : y.val ≤ 10000000000000) : FourB (n + 1) (smS es a y) := by
  unfold smS
  unfold FourB at *
  split
  · omega
  · split
    · simp only; omega
    · split
      · simp only; omega
      · split <;> simp only <;> omega
theorem smF_b {es : List Ev} {ls : List Lin} (h : ∀ y ∈ ls, 0 ≤ y.val ∧ y.val ≤ 10000000000000) : ∀ k, k ≤ ls.length → FourB k (smF es (ls.take k))
  | 0, _ => by unfold smF FourB; simp
  | k + 1, hk => by
    rw [smF_snoc es ls k hk]
    exact smS_b (smF_b h k (by omega)) (h _ (List.getElem_mem hk)).1 (h _ (List.getElem_mem hk)).2
theorem four_results {fn : Func} {a b c d : Tmp} (h : fn.results = #[.tmp a, .tmp b, .tmp c, .tmp d]) (tmps : Array Value) (P : Program) (w : World) :
    (results fn tmps).run P w = .ok (.tuple #[tmps.getD a undef, tmps.getD b undef, tmps.getD c undef, tmps.getD d undef]) w := by
  simp [results, h]
theorem sums1_any (e : Ev) (y : Lin) (xb : Nat) (W : World) (h : W.cell? ⟨xb, 0, none⟩ = some (.int .i64 y.id)) :
    Calls Try.prog 35 (#[evV e] ++ #[.pointer (some ⟨xb, 0, none⟩)]) W fun r w' => r = .returned (.bool (decide (e.id = y.id))) ∧ Below W.heap.size W w' := by
  obtain ⟨id, item, kind, qty, price, ofI, day⟩ := e
  unfold evV
  simp only
  have hlt := World.block_lt_of_cell? _ _ h
  have c0 := fun o : Obj => (((Below.refl W.heap.size W).alloc (Nat.le_refl _) o).cell (p := ⟨xb, 0, none⟩) hlt).trans h
  have hB : ∀ o : Obj, Below W.heap.size W (W.alloc o) := fun o => (Below.refl _ _).alloc (Nat.le_refl _) o
  have HB : Hid _ := hB
  clear hB h
  by_cases hd : id = y.id
  · have hd2 : decide (id = y.id) = true := by simpa using hd
    go_enter Try.func35, Try.ntmps35
    go_wp2
    go_ret
    exact ⟨rfl, HB.out _⟩
  · have hd2 : decide (id = y.id) = false := by simpa using hd
    have hd3 : (id == y.id) = false := by simpa using hd
    go_enter Try.func35, Try.ntmps35
    go_wp2
    go_ret
    exact ⟨rfl, HB.out _⟩
theorem Found.find {α : Type} {p : α → Bool} {l : List α} {r : Int} (h : Found p l r) : (r = -1 ∧ l.find? p = none) ∨ ∃ (k : Nat) (hk : k < l.length), r = k ∧ l.find? p = some l[k] := by
  rcases h with ⟨rfl, h⟩ | ⟨k, hk, rfl, h, hn⟩
  · refine Or.inl ⟨rfl, ?_⟩
    rw [List.find?_eq_none]
    intro y hy
    rw [h y hy]; simp
  · refine Or.inr ⟨k, hk, rfl, ?_⟩
    rw [List.find?_eq_some_iff_getElem]
    refine ⟨h, k, hk, rfl, fun j hj => ?_⟩
    rw [hn j (by omega) hj]; rfl
set_option maxRecDepth 20000 in
set_option maxHeartbeats 4000000 in
theorem sums_any {B : Nat} (es : List Ev) (ls : List Lin) (ao : Option Addr) (cap : Nat) (u mv : Value) (w : World) (hE : EvsC w ao es) (hO : w.ownsRow B 45 5 u ls.length (ls.flatMap linC)) (hl : es.length ≤ 1000) (hls : ls.length ≤ 1000) (hv : ∀ y ∈ ls, 0 ≤ y.val ∧ y.val ≤ 10000000000000) (mb : Nat) (hmv : mv = .map (some mb)) :
    Calls Try.prog 15 #[.slice ao es.length cap, .agg #[u, mv]] w fun r w' => r = .returned (.tuple #[.int .i64 (smF es ls).i, .int .i64 (smF es ls).o, .int .i64 (smF es ls).l, .int .i64 (smF es ls).g]) ∧ Below w.heap.size w w' := by
  subst hmv
  have HE : Hid (EvsC w ao es) := hE
  have HO : Hid (w.ownsRow B 45 5 u ls.length (ls.flatMap linC)) := hO
  have HV : Hid (∀ y ∈ ls, 0 ≤ y.val ∧ y.val ≤ 10000000000000) := hv
  obtain ⟨ad, cu, hu⟩ := own_lenN hO
  subst hu
  clear hE hO hv
  go_enter Try.func15, Try.ntmps15
  obtain ⟨W0, hW0⟩ : ∃ W, W = w.alloc (.cells #[.slice ad ls.length cu, .map (some mb)] 35) := ⟨_, rfl⟩
  have hB0 : Below w.heap.size w W0 := by rw [hW0]; exact (Below.refl _ _).alloc (Nat.le_refl _) _
  have r0 : W0.cell? ⟨w.heap.size, 0, none⟩ = some (.slice ad ls.length cu) := by rw [hW0]; simp
  have hs0 : w.heap.size < W0.heap.size := by rw [hW0]; simp
  have HW0 : Hid (W0 = _) := hW0
  have HR0 : Hid (W0.cell? ⟨w.heap.size, 0, none⟩ = some (.slice ad ls.length cu)) := r0
  clear hW0 r0
  go_wp2
  rw [← HW0.out]
  go_loopw [4, 5, 6, 7, 8] (fun a b c d i wr => ∃ k : Nat, k ≤ ls.length ∧ i = .int .i64 k ∧ a = .int .i64 (smF es (ls.take k)).i ∧ b = .int .i64 (smF es (ls.take k)).o ∧ c = .int .i64 (smF es (ls.take k)).l ∧ d = .int .i64 (smF es (ls.take k)).g ∧ Hid (Below W0.heap.size W0 wr)) (fun _ _ _ _ i _ => ls.length - (intOf i).toNat)
  case atStart => exact ⟨0, Nat.zero_le _, rfl, rfl, rfl, rfl, rfl, Below.refl _ _⟩
  case round =>
    obtain ⟨k, hk, rfl, rfl, rfl, rfl, rfl, HB⟩ := hrel
    have c0 := (HB.out.cell (p := ⟨w.heap.size, 0, none⟩) hs0).trans HR0.out
    have hbd := smF_b (es := es) HV.out k hk
    by_cases hlt : k < ls.length
    · have hBw : Below w.heap.size w wr := hB0.trans (HB.out.mono hB0.size)
      rcases own_form (own_below HO.out hBw (Nat.le_refl _)) with ⟨_, hn, _⟩ | ⟨g, cu', hv, _, hgl, _⟩
      · omega
      · simp only [Value.slice.injEq] at hv
        obtain ⟨rfl, _, rfl⟩ := hv
        have hcw := fun j hj => (own_cell linC_len (own_below HO.out hBw (Nat.le_refl _)) k j hlt hj).1
        obtain ⟨y, hy⟩ : ∃ y, y = ls[k] := ⟨_, rfl⟩
        have HY : Hid (smF es (ls.take (k + 1)) = smS es (smF es (ls.take k)) y) := by show _ = _; rw [hy]; exact smF_snoc es ls k hlt
        have hyv : 0 ≤ y.val ∧ y.val ≤ 10000000000000 := by rw [hy]; exact HV.out _ (List.getElem_mem hlt)
        rw [← hy] at hcw
        obtain ⟨a, ha⟩ : ∃ a, a = smF es (ls.take k) := ⟨_, rfl⟩
        rw [← ha] at hbd HY
        rw [← ha]
        clear ha hy
        obtain ⟨A1, A2, A3, A4⟩ := a
        unfold FourB at hbd
        simp only at hbd
        have p0 := hcw 0 (by omega)
        have p1 := hcw 1 (by omega)
        have p2 := hcw 2 (by omega)
        have p3 := hcw 3 (by omega)
        have p4 := hcw 4 (by omega)
        clear hcw
        obtain ⟨y0, y1, y2, y3, y4⟩ := y
        simp only [linC, List.getElem?_cons_zero, List.getElem?_cons_succ, Nat.add_zero] at p0 p1 p2 p3 p4
        simp only at hyv
        obtain ⟨W1, hW1⟩ : ∃ W, W = wr.alloc (.cells #[.int .i64 y0, .int .i64 y1, .int .i64 y2, .int .i64 y3, .bool y4] 45) := ⟨_, rfl⟩
        have hb1 : Below wr.heap.size wr W1 := by rw [hW1]; exact (Below.refl _ _).alloc (Nat.le_refl _) _
        have x0 : W1.cell? ⟨wr.heap.size, 0, none⟩ = some (.int .i64 y0) ∧ W1.cell? ⟨wr.heap.size, 1, none⟩ = some (.int .i64 y1) ∧ W1.cell? ⟨wr.heap.size, 4, none⟩ = some (.bool y4) := by rw [hW1]; simp
        have hs1 : wr.heap.size < W1.heap.size := by rw [hW1]; simp
        have hE1 := (HE.out.below hBw).below hb1
        have hix := idx_ev es ao cap W1 hE1 (by omega) 35 #[.pointer (some ⟨wr.heap.size, 0, none⟩)] (fun e => decide (e.id = y0)) (enters_of Try.func35 (by kernel_rfl) rfl) (fun e W hb => sums1_any e ⟨y0, y1, y2, y3, y4⟩ wr.heap.size W ((hb.cell (p := ⟨wr.heap.size, 0, none⟩) hs1).trans x0.1))
        have HW1 : Hid (W1 = _) := hW1
        have HX0 : Hid _ := x0
        have HE1 : Hid (EvsC W1 ao es) := hE1
        clear hW1 x0 hE1
        go_wp2_with fail
        rw [← HW1.out]
        refine hix.mono ?_
        rintro r w2 ⟨i, rfl, hfd, hb2⟩
        have d1 := (hb2.cell (p := ⟨wr.heap.size, 1, none⟩) hs1).trans HX0.out.2.1
        have d4 := (hb2.cell (p := ⟨wr.heap.size, 4, none⟩) hs1).trans HX0.out.2.2
        have HB2 : Hid (Below W0.heap.size W0 w2) := (HB.out.trans (hb1.mono HB.out.size)).trans (hb2.mono (by have := HB.out.size; have := hb1.size; omega))
        clear hix p0 p1 p2 p3 p4
        rcases hfd.find with ⟨rfl, hnone⟩ | ⟨kk, hkk, rfl, hsome⟩
        · have HS : Hid (smF es (ls.take (k + 1)) = ⟨A1, A2, A3, A4⟩) := by
            show _ = _
            rw [HY.out]; unfold smS
            simp only [hnone]
          clear hnone hfd
          go_wp2
          go_roundw
          case rel => exact ⟨k + 1, by omega, by go_num, by rw [HS.out], by rw [HS.out], by rw [HS.out], by rw [HS.out], HB2⟩
          case measure => simp [intOf]; omega
        · obtain ⟨ge, oe, hao, hge, hce⟩ := (HE1.out.below hb2) (by omega)
          subst hao
          obtain ⟨e, he⟩ : ∃ e, e = es[kk] := ⟨_, rfl⟩
          have ck : w2.cell? ⟨ge, oe + kk * 7 + 2, none⟩ = some (.int .i64 e.kind) := by rw [hce kk hkk 2 (by omega), he]; rfl
          rw [← he] at hsome
          have HSS : Hid (smF es (ls.take (k + 1)) = if e.kind = 1 ∨ e.kind = 2 then ⟨A1 + y1, A2, A3, A4⟩ else if e.kind = 3 then ⟨A1, A2 + y1, A3, A4⟩ else if y4 then ⟨A1, A2, A3, A4 + y1⟩ else ⟨A1, A2, A3 + y1, A4⟩) := by
            show _ = _
            rw [HY.out]; unfold smS
            simp only [hsome]
          clear hsome hce he hfd
          have hkk2 : (kk : Int) < (es.length : Int) := by omega
          have hk0 : ¬ (kk : Int) < 0 := by omega
          generalize e.kind = kd at ck HSS
          by_cases k1 : kd = 1
          · have HS : Hid (smF es (ls.take (k + 1)) = ⟨A1 + y1, A2, A3, A4⟩) := by show _ = _; rw [HSS.out, if_pos (Or.inl k1)]
            clear HSS
            go_wp2
            go_roundw
            case rel => exact ⟨k + 1, by omega, by go_num, by rw [HS.out], by rw [HS.out], by rw [HS.out], by rw [HS.out], HB2⟩
            case measure => simp [intOf]; omega
          · have k1' : (kd == 1) = false := by simpa using k1
            by_cases k2 : kd = 2
            · have HS : Hid (smF es (ls.take (k + 1)) = ⟨A1 + y1, A2, A3, A4⟩) := by show _ = _; rw [HSS.out, if_pos (Or.inr k2)]
              clear HSS
              go_wp2
              go_roundw
              case rel => exact ⟨k + 1, by omega, by go_num, by rw [HS.out], by rw [HS.out], by rw [HS.out], by rw [HS.out], HB2⟩
              case measure => simp [intOf]; omega
            · have k2' : (kd == 2) = false := by simpa using k2
              by_cases k3 : kd = 3
              · have HS : Hid (smF es (ls.take (k + 1)) = ⟨A1, A2 + y1, A3, A4⟩) := by show _ = _; rw [HSS.out, if_neg (by omega), if_pos k3]
                clear HSS
                go_wp2
                go_roundw
                case rel => exact ⟨k + 1, by omega, by go_num, by rw [HS.out], by rw [HS.out], by rw [HS.out], by rw [HS.out], HB2⟩
                case measure => simp [intOf]; omega
              · have k3' : (kd == 3) = false := by simpa using k3
                cases y4 with
                | true =>
                  have HS : Hid (smF es (ls.take (k + 1)) = ⟨A1, A2, A3, A4 + y1⟩) := by show _ = _; rw [HSS.out, if_neg (by omega), if_neg k3, if_pos rfl]
                  clear HSS
                  go_wp2
                  go_roundw
                  case rel => exact ⟨k + 1, by omega, by go_num, by rw [HS.out], by rw [HS.out], by rw [HS.out], by rw [HS.out], HB2⟩
                  case measure => simp [intOf]; omega
                | false =>
                  have HS : Hid (smF es (ls.take (k + 1)) = ⟨A1, A2, A3 + y1, A4⟩) := by show _ = _; rw [HSS.out, if_neg (by omega), if_neg k3, if_neg (by simp)]
                  clear HSS
                  go_wp2
                  go_roundw
                  case rel => exact ⟨k + 1, by omega, by go_num, by rw [HS.out], by rw [HS.out], by rw [HS.out], by rw [HS.out], HB2⟩
                  case measure => simp [intOf]; omega
    · obtain rfl : k = ls.length := by omega
      have e : ls.take ls.length = ls := List.take_length
      go_wp2
      refine bodyPost_ret (four_results rfl _ _ _) rfl ?_
      exact ⟨by rw [e]; rfl, hB0.trans (HB.out.mono hB0.size)⟩
end Go.Proofs.Ytgjjfeimgbibjaa
