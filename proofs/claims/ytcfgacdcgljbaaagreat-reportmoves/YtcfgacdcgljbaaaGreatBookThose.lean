/- The walk of (*book.Book).those, and of the closures that look at versions. -/
import Derived.Test.YtcfgacdcgljbaaaGreatBnD
namespace Go.Proofs.YtcfgacdcgljbaaaGreat
open Go.RowKit
/-- Known behind a turn. -/
def isAt (t : Int) (v : Vr) : Bool := decide (v.fr ≤ t) && (decide (v.to = 0) || decide (t < v.to))
/-- Of a number, and known yet. -/
def isK (id : Int) (v : Vr) : Bool := decide (v.ev.id = id) && decide (v.to = 0)
set_option maxHeartbeats 1000000 in
theorem at_any (x : Vr) (t : Int) (B : Nat) (w : World) (hB : B < w.heap.size) (hc : w.cell? ⟨B, 0, none⟩ = some (.int .i64 t)) :
    Calls Tryz.prog 20 #[vrV x, .pointer (some ⟨B, 0, none⟩)] w fun e w' => e = .returned (.bool (isAt t x)) ∧ Below w.heap.size w w' := by
  obtain ⟨⟨id, item, kind, qty, price, ofI, day⟩, fr, to⟩ := x
  unfold vrV isAt
  simp only
  have hne : B ≠ w.heap.size := by omega
  by_cases h1 : fr ≤ t
  · by_cases h2 : to = 0
    · go_enter Tryz.func20, Tryz.ntmps20
      go_wp2
      go_ret
      exact ⟨by simp [h1, h2], (Below.refl _ _).alloc (Nat.le_refl _) _⟩
    · have h2' : decide (to = 0) = false := by simpa using h2
      by_cases h3 : t < to
      · go_enter Tryz.func20, Tryz.ntmps20
        go_wp2
        go_ret
        exact ⟨by simp [h1, h3], (Below.refl _ _).alloc (Nat.le_refl _) _⟩
      · go_enter Tryz.func20, Tryz.ntmps20
        go_wp2
        go_ret
        exact ⟨by have h4 : decide (t < to) = false := (by simp; omega); simp [h4, h2], (Below.refl _ _).alloc (Nat.le_refl _) _⟩
  · have h1' : decide (fr ≤ t) = false := by simpa using h1
    go_enter Tryz.func20, Tryz.ntmps20
    go_wp2
    go_ret
    exact ⟨by simp, (Below.refl _ _).alloc (Nat.le_refl _) _⟩
set_option maxHeartbeats 1000000 in
theorem isk_any (x : Vr) (t : Int) (B : Nat) (w : World) (hB : B < w.heap.size) (hc : w.cell? ⟨B, 0, none⟩ = some (.int .i64 t)) :
    Calls Tryz.prog 71 #[vrV x, .pointer (some ⟨B, 0, none⟩)] w fun e w' => e = .returned (.bool (isK t x)) ∧ Below w.heap.size w w' := by
  obtain ⟨⟨id, item, kind, qty, price, ofI, day⟩, fr, to⟩ := x
  unfold vrV isK
  simp only
  have hne : B ≠ w.heap.size := by omega
  by_cases h1 : id = t
  · subst h1
    by_cases h2 : to = 0
    · go_enter Tryz.func71, Tryz.ntmps71
      go_wp2
      go_ret
      exact ⟨by simp [h2], (Below.refl _ _).alloc (Nat.le_refl _) _⟩
    · have h2' : decide (to = 0) = false := by simpa using h2
      go_enter Tryz.func71, Tryz.ntmps71
      go_wp2
      go_ret
      exact ⟨by simp [h2], (Below.refl _ _).alloc (Nat.le_refl _) _⟩
  · have h1' : decide (id = t) = false := by simpa using h1
    go_enter Tryz.func71, Tryz.ntmps71
    go_wp2
    go_ret
    exact ⟨by simp [h1], (Below.refl _ _).alloc (Nat.le_refl _) _⟩
/-- What is asked of a closure that looks at versions: it may make memory, and turns none. -/
def LooksAt (g : Nat) (lb : Array Value) (p : Vr → Bool) (w : World) : Prop :=
  ∀ (W : World) (x : Vr), Below w.heap.size w W → Calls Tryz.prog g (#[vrV x] ++ lb) W fun e w' => e = .returned (.bool (p x)) ∧ Below W.heap.size W w'
theorem flatMap_snoc {α : Type} (f : α → List Value) (l : List α) (x : α) : (l ++ [x]).flatMap f = l.flatMap f ++ f x := by simp
theorem filter_snoc {α : Type} (p : α → Bool) (l : List α) (k : Nat) (hk : k < l.length) : (l.take (k + 1)).filter p = (l.take k).filter p ++ if p l[k] then [l[k]] else [] := by
  rw [List.take_succ_eq_append_getElem hk, List.filter_append]
  congr 1
  by_cases h : p l[k] <;> simp [h]
def vrZ : Value := .agg #[.int .i64 0, .string ⟨#[]⟩, .int .i64 0, .int .i64 0, .int .i64 0, .int .i64 0, .int .i64 0, .int .i64 0, .int .i64 0]
theorem Tryz.infoVr : (Tryz.prog.info? 63).map (fun i => (i.zero, i.size, i.bytes)) = some (some vrZ, 9, 80) := by kernel_rfl
set_option maxHeartbeats 4000000 in
theorem those_some (vs : List Vr) (pb g cap B : Nat) (f : Nat) (lb : Array Value) (p : Vr → Bool) (w : World)
    (hc0 : w.cell? ⟨pb, 0, none⟩ = some (.slice (some ⟨g, 0, none⟩) vs.length cap)) (hown : w.ownsRow B 63 9 (.slice (some ⟨g, 0, none⟩) vs.length cap) vs.length (vs.flatMap vrC))
    (hl : vs.length ≤ 1000000) (eg : ∀ args w, (callFunc f args).run Tryz.prog w = .ok (.enter f args) w) (hp : LooksAt f lb p w) :
    Calls Tryz.prog 19 #[.pointer (some ⟨pb, 0, none⟩), .func (.func f) #[] lb] w fun e w' => ∃ v, e = .returned v ∧ w'.ownsRow w.heap.size 63 9 v (vs.filter p).length ((vs.filter p).flatMap vrC) ∧ Below w.heap.size w w' := by
  have hgl : g < w.heap.size := by
    rcases own_form hown with ⟨h, _⟩ | ⟨g', cap', h, _, hg, _⟩
    · cases h
    · cases h; exact hg
  obtain ⟨i0, hi, hz0, hz1, hz2⟩ := info_parts Tryz.infoVr
  go_enter Tryz.func19, Tryz.ntmps19
  go_wp2
  go_loopw [5, 13] (fun v i wr => ∃ k : Nat, k ≤ vs.length ∧ i = .int .i64 k ∧ wr.ownsRow w.heap.size 63 9 v ((vs.take k).filter p).length (((vs.take k).filter p).flatMap vrC) ∧ Below w.heap.size w wr)
    (fun _ i _ => vs.length - (intOf i).toNat)
  case atStart => exact ⟨0, Nat.zero_le _, rfl, World.ownsRow_nil _ _ _ _, Below.refl _ _⟩
  case round =>
    obtain ⟨k, hk, rfl, hv, hb⟩ := hrel
    by_cases hlt : k < vs.length
    · obtain ⟨x, hx⟩ : ∃ x, x = vs[k] := ⟨_, rfl⟩
      have hcw : ∀ j, j < 9 → wr.cell? ⟨g, k * 9 + j, none⟩ = (vrC x)[j]? := fun j hj => by
        rw [hb.cell (p := ⟨g, k * 9 + j, none⟩) hgl, (own_cell vrC_len hown k j hlt hj).1, hx]
      have HF := filter_snoc p vs k hlt
      rw [← hx] at HF
      have hfl : ((vs.take k).filter p).length ≤ 1000000 := Nat.le_trans (List.length_filter_le _ _) (by rw [List.length_take]; omega)
      have HC := hp
      obtain ⟨⟨id, item, kind, qty, price, ofI, day⟩, fr, to⟩ := x
      obtain ⟨o, ho⟩ : ∃ o, o = Obj.cells #[.int .i64 id, .string item, .int .i64 kind, .int .i64 qty, .int .i64 price, .int .i64 ofI, .int .i64 day, .int .i64 fr, .int .i64 to] 63 := ⟨_, rfl⟩
      have hcall := hp (wr.alloc o) ⟨⟨id, item, kind, qty, price, ofI, day⟩, fr, to⟩ (hb.alloc hb.size _)
      have q0 := hcw 0 (by omega)
      have q1 := hcw 1 (by omega)
      have q2 := hcw 2 (by omega)
      have q3 := hcw 3 (by omega)
      have q4 := hcw 4 (by omega)
      have q5 := hcw 5 (by omega)
      have q6 := hcw 6 (by omega)
      have q7 := hcw 7 (by omega)
      have q8 := hcw 8 (by omega)
      simp only [vrC, List.getElem?_cons_zero, List.getElem?_cons_succ, Nat.add_zero] at q0 q1 q2 q3 q4 q5 q6 q7 q8
      clear hcw HC
      have HX : Hid (_ = vs[k]) := hx
      clear hx
      have HF' : Hid (_ = _) := HF
      clear HF
      have HO : Hid (wr.ownsRow _ _ _ _ _ _) := hv
      clear hv
      unfold vrV at hcall
      simp only at hcall
      go_wp2_with fail
      rw [← ho]
      refine hcall.mono ?_
      rintro e w1 ⟨rfl, hb1⟩
      have HO1 : Hid (w1.ownsRow w.heap.size 63 9 u5 ((vs.take k).filter p).length (((vs.take k).filter p).flatMap vrC)) := own_below (HO.out.alloc o) hb1 (Nat.le_refl _)
      have hbw : Below w.heap.size w w1 := (hb.alloc hb.size o).trans (hb1.mono (by have := hb.size; simp; omega))
      have hcx : ∀ j : Nat, w1.cell? ⟨wr.heap.size, j, none⟩ = (wr.alloc o).cell? ⟨wr.heap.size, j, none⟩ := fun j => hb1.cell (p := ⟨wr.heap.size, j, none⟩) (by simp)
      rw [ho] at hcx
      have r0 := hcx 0
      have r1 := hcx 1
      have r2 := hcx 2
      have r3 := hcx 3
      have r4 := hcx 4
      have r5 := hcx 5
      have r6 := hcx 6
      have r7 := hcx 7
      have r8 := hcx 8
      simp at r0 r1 r2 r3 r4 r5 r6 r7 r8
      clear hcx HO hcall hb1 ho q0 q1 q2 q3 q4 q5 q6 q7 q8
      cases hpx : p ⟨⟨id, item, kind, qty, price, ofI, day⟩, fr, to⟩ with
      | true =>
        rw [hpx] at HF'
        go_wp2_with (first
          | (at_builtin; refine wpList_append_own _ rfl _ _ 49 rfl w.heap.size 63 i0 vrZ 9 80 Tryz.underlying49 hi hz0 hz1 hz2 rfl (by decide) _ _ _ rfl (HO1.out.alloc _) ⟨w1.heap.size, 0, none⟩ 1 1 (vrC ⟨⟨id, item, kind, qty, price, ofI, day⟩, fr, to⟩) rfl rfl ?c1 ?c2 ?c3 ?c4 ?c5 ?_)
          | go_in)
        case c1 => exact cells_of_list rfl
        case c2 => exact vrC_one _
        case c3 => unfold maxLen; omega
        case c4 => omega
        case c5 => have := hbw.size; simp; omega
        · intro v' w2 hown2 hgr _
          go_wp2
          go_roundw
          case rel =>
            refine ⟨k + 1, by omega, by go_num, ?_, ?_⟩
            · rw [HF'.out]
              simpa using hown2
            · exact (hbw.alloc hbw.size _).grown hgr (by have := hbw.size; simp; omega) (fun j hj => (HO1.out.lt j hj).1)
          case measure => simp [intOf]; omega
      | false =>
        rw [hpx] at HF'
        go_wp2
        go_roundw
        case rel =>
          refine ⟨k + 1, by omega, by go_num, ?_, hbw⟩
          rw [HF'.out]
          simpa using HO1.out
        case measure => simp [intOf]; omega
    · go_wp2
      go_ret
      refine ⟨_, rfl, ?_, hb⟩
      have e : k = vs.length := by omega
      subst e
      simpa using hv
end Go.Proofs.YtcfgacdcgljbaaaGreat
