/- The walk of tallymanref.ParseEvent. -/
import Derived.Test.YtapkandekfndoaaGreatDoorRefEventRead
namespace Go.Proofs.YtapkandekfndoaaGreatDoor
open Go.RowKit
theorem Tryz.infoStr : (Tryz.prog.info? 9).map (fun i => (i.zero, i.size, i.bytes)) = some (some (.string ⟨#[]⟩), 1, 16) := by kernel_rfl
theorem addr_add (b j : Nat) : (⟨b, 0, none⟩ : Addr).add j = ⟨b, j, none⟩ := by
  by_cases h : j = 0
  · subst h; simp [Addr.add]
  · simp [Addr.add, h]
theorem own_form {w : World} {base : Nat} {e : TypeId} {v : Value} {n : Nat} {xs : List Value} (h : w.ownsRow base e 1 v n xs) (hn : 0 < n) :
    ∃ g cap : Nat, v = .slice (some ⟨g, 0, none⟩) n cap ∧ base ≤ g ∧ g < w.heap.size ∧ (∀ j, j < n → w.cell? ⟨g, j, none⟩ = xs[j]?) ∧ n ≤ cap ∧ cap ≤ maxLen := by
  have h0 := h
  rcases h.2 with ⟨_, h2⟩ | ⟨g, cap, cur, rfl, hb, hg, hnc, hcm, _, _⟩
  · omega
  · refine ⟨g, cap, rfl, hb, ?_, fun j hj => h0.cellAt j (by omega), hnc, hcm⟩
    rcases Nat.lt_or_ge g w.heap.size with h | h
    · exact h
    · rw [Array.getElem?_eq_none h] at hg; cases hg
/- ARMS -/
/-- The first six parts lie in a block. -/
structure SixAt (w : World) (g : Nat) (p0 p1 p2 p3 p5 : ByteArray) : Prop where
  c0 : w.cell? ⟨g, 0, none⟩ = some (.string p0)
  c1 : w.cell? ⟨g, 1, none⟩ = some (.string p1)
  c2 : w.cell? ⟨g, 2, none⟩ = some (.string p2)
  c3 : w.cell? ⟨g, 3, none⟩ = some (.string p3)
  c5 : w.cell? ⟨g, 5, none⟩ = some (.string p5)
theorem SixAt.below {w w' : World} {g : Nat} {p0 p1 p2 p3 p5 : ByteArray} (h : SixAt w g p0 p1 p2 p3 p5) (hb : Below w.heap.size w w') : SixAt w' g p0 p1 p2 p3 p5 :=
  ⟨below_cell hb h.c0, below_cell hb h.c1, below_cell hb h.c2, below_cell hb h.c3, below_cell hb h.c5⟩
theorem keepS {w : World} {a p : Addr} {v x : Value} (h : w.cell? p = some x) (hne : a ≠ p) : (w.setCell a v).cell? p = some x := by
  rw [World.cell?_setCell_other (h := hne)]; exact h
theorem ne_block {b c i j : Nat} (h : ¬ b = c) : (⟨b, i, none⟩ : Addr) ≠ ⟨c, j, none⟩ := fun e => h (congrArg Addr.block e)
theorem ne_off {b i j : Nat} (h : ¬ i = j) : (⟨b, i, none⟩ : Addr) ≠ ⟨b, j, none⟩ := fun e => h (congrArg Addr.off e)
theorem SixAt.other {w : World} {g c k : Nat} {p0 p1 p2 p3 p5 : ByteArray} {v : Value} (h : SixAt w g p0 p1 p2 p3 p5) (hne : ¬ c = g) : SixAt (w.setCell ⟨c, k, none⟩ v) g p0 p1 p2 p3 p5 :=
  ⟨keepS h.c0 (ne_block hne), keepS h.c1 (ne_block hne), keepS h.c2 (ne_block hne), keepS h.c3 (ne_block hne), keepS h.c5 (ne_block hne)⟩
theorem EvF.other {w : World} {b c k : Nat} {e : Ev} {v : Value} (h : EvF w b e) (hne : ¬ c = b) : EvF (w.setCell ⟨c, k, none⟩ v) b e :=
  ⟨⟨keepS h.ev.c0 (ne_block hne), keepS h.ev.c1 (ne_block hne), keepS h.ev.c2 (ne_block hne), keepS h.ev.c3 (ne_block hne), keepS h.ev.c4 (ne_block hne), keepS h.ev.c5 (ne_block hne), keepS h.ev.c6 (ne_block hne)⟩, fun k => by rw [World.frozen?_setCell]; exact h.fz k⟩
theorem EvF.set2 {w : World} {b : Nat} {e : Ev} (h : EvF w b e) (x : Int) : EvF (w.setCell ⟨b, 2, none⟩ (.int .i64 x)) b { e with kind := x } :=
  ⟨⟨keepS h.ev.c0 (ne_off (by decide)), keepS h.ev.c1 (ne_off (by decide)), World.cell?_setCell_same _ _ _ h.ev.c2, keepS h.ev.c3 (ne_off (by decide)), keepS h.ev.c4 (ne_off (by decide)), keepS h.ev.c5 (ne_off (by decide)), keepS h.ev.c6 (ne_off (by decide))⟩, fun k => by rw [World.frozen?_setCell]; exact h.fz k⟩
theorem EvF.set3 {w : World} {b : Nat} {e : Ev} (h : EvF w b e) (x : Int) : EvF (w.setCell ⟨b, 3, none⟩ (.int .i64 x)) b { e with qty := x } :=
  ⟨⟨keepS h.ev.c0 (ne_off (by decide)), keepS h.ev.c1 (ne_off (by decide)), keepS h.ev.c2 (ne_off (by decide)), World.cell?_setCell_same _ _ _ h.ev.c3, keepS h.ev.c4 (ne_off (by decide)), keepS h.ev.c5 (ne_off (by decide)), keepS h.ev.c6 (ne_off (by decide))⟩, fun k => by rw [World.frozen?_setCell]; exact h.fz k⟩
theorem EvF.set4 {w : World} {b : Nat} {e : Ev} (h : EvF w b e) (x : Int) : EvF (w.setCell ⟨b, 4, none⟩ (.int .i64 x)) b { e with price := x } :=
  ⟨⟨keepS h.ev.c0 (ne_off (by decide)), keepS h.ev.c1 (ne_off (by decide)), keepS h.ev.c2 (ne_off (by decide)), keepS h.ev.c3 (ne_off (by decide)), World.cell?_setCell_same _ _ _ h.ev.c4, keepS h.ev.c5 (ne_off (by decide)), keepS h.ev.c6 (ne_off (by decide))⟩, fun k => by rw [World.frozen?_setCell]; exact h.fz k⟩
theorem EvF.set5 {w : World} {b : Nat} {e : Ev} (h : EvF w b e) (x : Int) : EvF (w.setCell ⟨b, 5, none⟩ (.int .i64 x)) b { e with ofI := x } :=
  ⟨⟨keepS h.ev.c0 (ne_off (by decide)), keepS h.ev.c1 (ne_off (by decide)), keepS h.ev.c2 (ne_off (by decide)), keepS h.ev.c3 (ne_off (by decide)), keepS h.ev.c4 (ne_off (by decide)), World.cell?_setCell_same _ _ _ h.ev.c5, keepS h.ev.c6 (ne_off (by decide))⟩, fun k => by rw [World.frozen?_setCell]; exact h.fz k⟩
theorem EvF.set6 {w : World} {b : Nat} {e : Ev} (h : EvF w b e) (x : Int) : EvF (w.setCell ⟨b, 6, none⟩ (.int .i64 x)) b { e with day := x } :=
  ⟨⟨keepS h.ev.c0 (ne_off (by decide)), keepS h.ev.c1 (ne_off (by decide)), keepS h.ev.c2 (ne_off (by decide)), keepS h.ev.c3 (ne_off (by decide)), keepS h.ev.c4 (ne_off (by decide)), keepS h.ev.c5 (ne_off (by decide)), World.cell?_setCell_same _ _ _ h.ev.c6⟩, fun k => by rw [World.frozen?_setCell]; exact h.fz k⟩
theorem four_at (V : World) (a b c d : Value) (t : TypeId) : (V.alloc (.cells #[a, b, c, d] t)).cell? ⟨V.heap.size, 0, none⟩ = some a ∧ (V.alloc (.cells #[a, b, c, d] t)).cell? ⟨V.heap.size, 1, none⟩ = some b ∧ (V.alloc (.cells #[a, b, c, d] t)).cell? ⟨V.heap.size, 2, none⟩ = some c ∧ (V.alloc (.cells #[a, b, c, d] t)).cell? ⟨V.heap.size, 3, none⟩ = some d := by simp
theorem setC_size (w : World) (a : Addr) (v : Value) : (w.setCell a v).heap.size = w.heap.size := by simp
set_option maxHeartbeats 16000000 in
set_option maxRecDepth 20000 in
theorem revent_gen (s t : ByteArray) (kx : Int) (out : Ev) (kk : Int) (w : World) (hg : GlobN w) (hl : Glob w) (hs : s.size ≤ 300)
    (hT : ∀ v, Glob v → Calls Tryz.prog 34 #[evV (breadR (parts s))] v fun x w' => x = .returned (.tuple #[.string t, .int .i64 kx]) ∧ Below v.heap.size v w')
    (hend : (kx = 0 ∧ (t.toList == s.toList) = true ∧ out = breadR (parts s) ∧ kk = 0) ∨ (kx = 0 ∧ (t.toList == s.toList) = false ∧ out = ev0 ∧ kk = 3) ∨ (kx = 1 ∧ out = ev0 ∧ kk = 3)) :
    Calls Tryz.prog 36 #[.string s] w fun x w' => x = .returned (.tuple #[evV out, .int .i64 kk]) ∧ Below w.heap.size w w' := by
  obtain ⟨i0, hi, hz0, hz1, hz2⟩ := info_parts Tryz.infoStr
  have hfew := parts_few s
  have HS := hidN hs
  have HG := hidN hl
  have HN := hidN hg
  obtain ⟨p0, hp0⟩ : ∃ x, (parts s).getD 0 ⟨#[]⟩ = x := ⟨_, rfl⟩
  obtain ⟨p1, hp1⟩ : ∃ x, (parts s).getD 1 ⟨#[]⟩ = x := ⟨_, rfl⟩
  obtain ⟨p2, hp2⟩ : ∃ x, (parts s).getD 2 ⟨#[]⟩ = x := ⟨_, rfl⟩
  obtain ⟨p3, hp3⟩ : ∃ x, (parts s).getD 3 ⟨#[]⟩ = x := ⟨_, rfl⟩
  obtain ⟨p5, hp5⟩ : ∃ x, (parts s).getD 5 ⟨#[]⟩ = x := ⟨_, rfl⟩
  have z0 := ps_short s 0
  have z3 := ps_short s 3
  have z5 := ps_short s 5
  rw [hp0] at z0
  rw [hp3] at z3
  rw [hp5] at z5
  have HO : Hid ((olds6 (parts s))[0]? = some (.string p0) ∧ (olds6 (parts s))[1]? = some (.string p1) ∧ (olds6 (parts s))[2]? = some (.string p2) ∧ (olds6 (parts s))[3]? = some (.string p3) ∧ (olds6 (parts s))[5]? = some (.string p5)) :=
    ⟨by rw [olds6_at _ 0 (by omega), hp0], by rw [olds6_at _ 1 (by omega), hp1], by rw [olds6_at _ 2 (by omega), hp2], by rw [olds6_at _ 3 (by omega), hp3], by rw [olds6_at _ 5 (by omega), hp5]⟩
  have hR : breadR (parts s) = { id := 0, day := dayR p0.data.toList, kind := kindOf p1.data.toList, item := p2, qty := if kindOf p1.data.toList = 2 then 0 else numR p3.data.toList, price := if kindOf p1.data.toList = 1 then amtR p5.data.toList else if kindOf p1.data.toList = 2 then amtR p3.data.toList else 0, ofI := if kindOf p1.data.toList = 2 then numR p5.data.toList else 0 } := by
    unfold breadR rread
    rw [getD_map, getD_map, getD_map, getD_map, getD_map, hp0, hp1, hp2, hp3, hp5, eb_data]
  rw [hR] at hT hend
  clear hR hp0 hp1 hp2 hp3 hp5
  have HD := fun v hv => hidN (dateR p0 v hv (by omega))
  have HA3 := fun v hv => hidN (atoiR p3 v hv (by omega))
  have HA5 := fun v hv => hidN (atoiR p5 v hv (by omega))
  have HM3 := fun v hv => hidN (amountR p3 v hv (by omega))
  have HM5 := fun v hv => hidN (amountR p5 v hv (by omega))
  obtain ⟨d, hd⟩ : ∃ x, dayR p0.data.toList = x := ⟨_, rfl⟩
  obtain ⟨n3, hn3⟩ : ∃ x, numR p3.data.toList = x := ⟨_, rfl⟩
  obtain ⟨n5, hn5⟩ : ∃ x, numR p5.data.toList = x := ⟨_, rfl⟩
  obtain ⟨m3, hm3⟩ : ∃ x, amtR p3.data.toList = x := ⟨_, rfl⟩
  obtain ⟨m5, hm5⟩ : ∃ x, amtR p5.data.toList = x := ⟨_, rfl⟩
  rw [hd] at HD hT hend
  rw [hn3] at HA3 hT hend
  rw [hn5] at HA5 hT hend
  rw [hm3] at HM3 hT hend
  rw [hm5] at HM5 hT hend
  have q1 := word_eq (wordOf 1) p1
  have q2 := word_eq (wordOf 2) p1
  have q3 := word_eq (wordOf 3) p1
  have q4 := word_eq (wordOf 4) p1
  obtain ⟨x1, hx1⟩ : ∃ x, x = eb (wordOf 1) := ⟨_, rfl⟩
  obtain ⟨x2, hx2⟩ : ∃ x, x = eb (wordOf 2) := ⟨_, rfl⟩
  obtain ⟨x3, hx3⟩ : ∃ x, x = eb (wordOf 3) := ⟨_, rfl⟩
  obtain ⟨x4, hx4⟩ : ∃ x, x = eb (wordOf 4) := ⟨_, rfl⟩
  rw [← hx1] at q1
  rw [← hx2] at q2
  rw [← hx3] at q3
  rw [← hx4] at q4
  have HX : Hid ((⟨#[105, 110]⟩ : ByteArray) = x1 ∧ (⟨#[99, 104, 97, 114, 103, 101]⟩ : ByteArray) = x2 ∧ (⟨#[111, 117, 116]⟩ : ByteArray) = x3 ∧ (⟨#[99, 111, 117, 110, 116]⟩ : ByteArray) = x4) := ⟨hx1.symm, hx2.symm, hx3.symm, hx4.symm⟩
  have HT := hidN hT
  have HE := hidN hend
  have Q1 := hidN q1
  have Q2 := hidN q2
  have Q3 := hidN q3
  have Q4 := hidN q4
  clear hd hn3 hn5 hm3 hm5 z0 z3 z5 hg hl hs hT hend hx1 hx2 hx3 hx4 q1 q2 q3 q4
  obtain ⟨W0, hW0⟩ : ∃ W, W = w.alloc (.cells #[.int .i64 0, .string ⟨#[]⟩, .int .i64 0, .int .i64 0, .int .i64 0, .int .i64 0, .int .i64 0] 52) := ⟨_, rfl⟩
  have hB0 : Below w.heap.size w W0 := by rw [hW0]; exact (Below.refl _ _).alloc (Nat.le_refl _) _
  have hR0 : EvF W0 w.heap.size ⟨0, ⟨#[]⟩, 0, 0, 0, 0, 0⟩ := by
    refine ⟨?_, fun k => ?_⟩
    · rw [hW0]; constructor <;> simp
    · rw [hW0]; simp
  go_enter Tryz.func36, Tryz.ntmps36
  go_wp2_with fail
  rw [← hW0]
  clear hW0
  refine (splitN s _ (HN.out.below hB0) (by have := HS.out; omega)).mono ?_
  rintro x W1 ⟨rfl, hw1⟩
  have hb1 : Below W0.heap.size W0 W1 := by rw [hw1]; exact (Below.refl _ _).alloc (Nat.le_refl _) _
  have hC1 : ∀ k : Nat, k < (parts s).length → W1.cell? ⟨W0.heap.size, k, none⟩ = some (.string ((parts s).getD k ⟨#[]⟩)) := by
    intro k hk
    rw [hw1]; exact cells_alloc W0 (parts s) k hk
  have hB1 := hB0.trans (hb1.mono hB0.size)
  have hR1 := hR0.below hb1
  clear hw1 hb1 hR0 hB0
  have hbV : Below W1.heap.size W1 (W1.alloc (.cells #[.string ⟨#[]⟩, .string ⟨#[]⟩, .string ⟨#[]⟩, .string ⟨#[]⟩, .string ⟨#[]⟩, .string ⟨#[]⟩] 9)) := (Below.refl _ _).alloc (Nat.le_refl _) _
  have H1 : Hid (∀ b, (some ⟨W0.heap.size, 0, none⟩ : Option Addr) = some b → ∀ (j : Nat) (u : Value), ((parts s).map Value.string)[j]? = some u → (W1.alloc (.cells #[.string ⟨#[]⟩, .string ⟨#[]⟩, .string ⟨#[]⟩, .string ⟨#[]⟩, .string ⟨#[]⟩, .string ⟨#[]⟩] 9)).cell? (b.add j) = some u) := by
    intro b hb j u hu
    cases hb
    rw [List.getElem?_map] at hu
    rcases hj : (parts s)[j]? with _ | y
    · rw [hj] at hu; cases hu
    · rw [hj] at hu
      have hlt : j < (parts s).length := (List.getElem?_eq_some_iff.1 hj).1
      have := below_cell hbV (hC1 j hlt)
      rw [List.getD, hj] at this
      cases hu
      rw [addr_add]; exact this
  have H2 : Hid (∀ (j : Nat) (u : Value), (List.replicate 6 (Value.string ⟨#[]⟩))[j]? = some u → (W1.alloc (.cells #[.string ⟨#[]⟩, .string ⟨#[]⟩, .string ⟨#[]⟩, .string ⟨#[]⟩, .string ⟨#[]⟩, .string ⟨#[]⟩] 9)).cell? ((⟨W1.heap.size, 0, none⟩ : Addr).add j) = some u) := by
    intro j u hu
    have hj : j < 6 := by have := (List.getElem?_eq_some_iff.1 hu).1; simpa using this
    have : j = 0 ∨ j = 1 ∨ j = 2 ∨ j = 3 ∨ j = 4 ∨ j = 5 := by omega
    rcases this with rfl | rfl | rfl | rfl | rfl | rfl <;> (cases hu; rw [addr_add]; simp)
  have H3 : Hid (∀ u ∈ List.replicate 6 (Value.string ⟨#[]⟩), u.oneCell' = true) := by
    intro u hu
    rw [List.eq_of_mem_replicate hu]; rfl
  have hB2 := hB1.trans (hbV.mono hB1.size)
  have h300 := HS.out
  go_wp2_with (at_builtin; refine wpList_append_grows _ rfl _ _ 78 rfl 9 i0 (.string ⟨#[]⟩) 1 16 Tryz.underlying78 hi hz0 hz1 hz2 rfl (by decide) (some ⟨W0.heap.size, 0, none⟩) (parts s).length (parts s).length ((parts s).map Value.string) rfl (by simp) (by simp) H1.out ⟨W1.heap.size, 0, none⟩ 6 6 (List.replicate 6 (.string ⟨#[]⟩)) rfl rfl H2.out H3.out (by omega) (by unfold maxLen; omega) (by omega) ?_; intro v' W3 hown hgrow; obtain ⟨g, cap, rfl, hgb, hgl, hgc, hnc, hcm⟩ := own_form hown (by omega); have hB3 := hB2.grown hgrow hB2.size (by simp); have hbG := (Below.refl _ _).grown hgrow (Nat.le_refl _) (by simp); have hS3 : SixAt W3 g p0 p1 p2 p3 p5 := ⟨(hgc 0 (by omega)).trans HO.out.1, (hgc 1 (by omega)).trans HO.out.2.1, (hgc 2 (by omega)).trans HO.out.2.2.1, (hgc 3 (by omega)).trans HO.out.2.2.2.1, (hgc 5 (by omega)).trans HO.out.2.2.2.2⟩; have hR3 := (hR1.below hbV).below hbG; have u0 := hS3.c0; have u2 := hS3.c2; have hne : ¬ W3.heap.size = g := (by omega); have hne' : ¬ g = W3.heap.size := (by omega); clear hown hgrow hgc H1 H2 H3 hbV hB2 hB1 hbG hC1 hi hz0 hz1 hz2)
  have hrg : ¬ g = w.heap.size := by
    have := World.block_lt_of_cell? _ _ hR1.ev.c0
    simp at this hgb
    omega
  have hrlt := World.block_lt_of_cell? _ _ hR3.ev.c0
  simp only at hrlt
  obtain ⟨W4, hW4⟩ : ∃ W, W = W3.alloc (.cells #[.int .i64 0, .string p2, .int .i64 0, .int .i64 0, .int .i64 0, .int .i64 0, .int .i64 0] 52) := ⟨_, rfl⟩
  have hb4 : Below W3.heap.size W3 W4 := by rw [hW4]; exact (Below.refl _ _).alloc (Nat.le_refl _) _
  have hX4 : EvF W4 W3.heap.size ⟨0, p2, 0, 0, 0, 0, 0⟩ := by
    refine ⟨?_, fun k => ?_⟩
    · rw [hW4]; constructor <;> simp
    · rw [hW4]; simp
  obtain ⟨xb, hxb⟩ : ∃ x, x = W3.heap.size := ⟨_, rfl⟩
  rw [← hW4]
  rw [← hxb] at hX4 hne hne' ⊢
  have hB4 := hB3.trans (hb4.mono hB3.size)
  have hS4 := hS3.below hb4
  have hR4 := hR3.below hb4
  have hxr : ¬ xb = w.heap.size := by omega
  have hxr' : ¬ w.heap.size = xb := by omega
  have hxle : w.heap.size ≤ xb := by omega
  clear hW4 hb4 hS3 hR3 hR1 hB3 u0 u2 hxb hgb hgl hcm HO hrlt
  refine (HD _ (HG.out.below hB4)).out.mono ?_
  rintro x W5 ⟨v5, rfl, hb5⟩
  have hB5 := hB4.trans (hb5.mono hB4.size)
  have hS5 := hS4.below hb5
  have hR5 := hR4.below hb5
  have hX5 := hX4.below hb5
  clear hB4 hS4 hR4 hX4 hb5 HD
  have u6 := hX5.ev.c6
  have uf := hX5.fz
  simp only at u6
  go_wp2_with fail
  clear u6 uf
  obtain ⟨W6, hW6⟩ : ∃ W, W = (W5.setCell ⟨xb, 6, none⟩ (.int .i64 d)).alloc (.cells #[.string ⟨#[105, 110]⟩, .string ⟨#[99, 104, 97, 114, 103, 101]⟩, .string ⟨#[111, 117, 116]⟩, .string ⟨#[99, 111, 117, 110, 116]⟩] 9) := ⟨_, rfl⟩
  rw [← hW6]
  have hbs : Below w.heap.size w (W5.setCell ⟨xb, 6, none⟩ (.int .i64 d)) := hB5.setCell hxle _
  have hba : Below (W5.setCell ⟨xb, 6, none⟩ (.int .i64 d)).heap.size (W5.setCell ⟨xb, 6, none⟩ (.int .i64 d)) W6 := by rw [hW6]; exact (Below.refl _ _).alloc (Nat.le_refl _) _
  have hB6 := hbs.trans (hba.mono hbs.size)
  have hS6 := (hS5.other (c := xb) (k := 6) (v := .int .i64 d) hne).below hba
  have hR6 := (hR5.other (c := xb) (k := 6) (v := .int .i64 d) hxr).below hba
  have hX6 := (hX5.set6 d).below hba
  simp only at hX6
  have hwb : (W5.setCell ⟨xb, 6, none⟩ (.int .i64 d)).heap.size = W5.heap.size := setC_size _ _ _
  have b1 : W6.cell? ⟨W5.heap.size, 0, none⟩ = some (.string x1) := by rw [hW6, ← HX.out.1, ← hwb]; exact (four_at _ _ _ _ _ _).1
  have b2 : W6.cell? ⟨W5.heap.size, 1, none⟩ = some (.string x2) := by rw [hW6, ← HX.out.2.1, ← hwb]; exact (four_at _ _ _ _ _ _).2.1
  have b3 : W6.cell? ⟨W5.heap.size, 2, none⟩ = some (.string x3) := by rw [hW6, ← HX.out.2.2.1, ← hwb]; exact (four_at _ _ _ _ _ _).2.2.1
  have b4 : W6.cell? ⟨W5.heap.size, 3, none⟩ = some (.string x4) := by rw [hW6, ← HX.out.2.2.2, ← hwb]; exact (four_at _ _ _ _ _ _).2.2.2
  have hxw : ¬ xb = W5.heap.size := by
    have := World.block_lt_of_cell? _ _ hX5.ev.c0
    simp only at this; omega
  have hxw' : ¬ W5.heap.size = xb := fun e => hxw e.symm
  obtain ⟨wb, hwbe⟩ : ∃ x, x = W5.heap.size := ⟨_, rfl⟩
  rw [← hwbe] at b1 b2 b3 b4 hxw hxw'
  have HW6 := hidN hwbe
  clear hW6 hbs hba hS5 hR5 hX5 hB5 hwb HX
  have u1 := hS6.c1
  have k2 := hX6.ev.c2
  have kf := hX6.fz
  simp only at k2
  have u3 := hS6.c3
  have HK := hidN (kindOf_bd p1.data.toList)
  rw [← HW6.out]
  clear HW6 HK hwbe
  by_cases e1 : p1.data.toList = wordOf 1
  · have hk : kindOf p1.data.toList = 1 := by rw [e1]; rfl
    have HTk : Hid (∀ v, Glob v → Calls Tryz.prog 34 #[.agg #[.int .i64 0, .string p2, .int .i64 1, .int .i64 n3, .int .i64 m5, .int .i64 0, .int .i64 d]] v fun x w' => x = .returned (.tuple #[.string t, .int .i64 kx]) ∧ Below v.heap.size v w') := by
      have := HT.out; rw [hk] at this; exact this
    have HEk : Hid ((kx = 0 ∧ (t.toList == s.toList) = true ∧ out = ⟨0, p2, 1, n3, m5, 0, d⟩ ∧ kk = 0) ∨ (kx = 0 ∧ (t.toList == s.toList) = false ∧ out = ev0 ∧ kk = 3) ∨ (kx = 1 ∧ out = ev0 ∧ kk = 3)) := by
      have := HE.out; rw [hk] at this; exact this
    have r1 : (x1.toList == p1.toList) = true := by rw [Q1.out]; exact decide_eq_true e1
    have r2 : (x2.toList == p1.toList) = false := by rw [Q2.out, e1]; decide
    have r3 : (x3.toList == p1.toList) = false := by rw [Q3.out, e1]; decide
    have r4 : (x4.toList == p1.toList) = false := by rw [Q4.out, e1]; decide
    clear HT HE Q1 Q2 Q3 Q4 hk e1
    refine wp_loop_rounds 5 ?_
    rw [rounds_succ]
    go_wp2
    rw [rounds_succ]
    go_wp2
    rw [rounds_succ]
    go_wp2
    rw [rounds_succ]
    go_wp2
    rw [rounds_succ]
    go_wp2_with fail
    clear r1 r2 r3 r4 b1 b2 b3 b4 u1 k2 kf u3
    have hB7 := hB6.setCell (p := ⟨xb, 2, none⟩) hxle (.int .i64 1)
    have hS7 := hS6.other (c := xb) (k := 2) (v := .int .i64 1) hne
    have hR7 := hR6.other (c := xb) (k := 2) (v := .int .i64 1) hxr
    have hX7 := hX6.set2 1
    simp only at hX7
    clear hB6 hS6 hR6 hX6
    refine (HA3 _ (HG.out.below hB7)).out.mono ?_
    rintro x W8 ⟨v8, rfl, hb8⟩
    have hB8 := hB7.trans (hb8.mono hB7.size)
    have hS8 := hS7.below hb8
    have hR8 := hR7.below hb8
    have hX8 := hX7.below hb8
    clear hB7 hS7 hR7 hX7 hb8
    obtain ⟨y0, y1, y2, y3, y4, y5, y6⟩ := hX8.ev
    have yf := hX8.fz
    simp only at y0 y1 y2 y3 y4 y5 y6
    have u5 := hS8.c5
    go_wp2_with fail
    clear y0 y1 y2 y3 y4 y5 y6 yf u5
    have hB9 := hB8.setCell (p := ⟨xb, 3, none⟩) hxle (.int .i64 n3)
    have hS9 := hS8.other (c := xb) (k := 3) (v := .int .i64 n3) hne
    have hR9 := hR8.other (c := xb) (k := 3) (v := .int .i64 n3) hxr
    have hX9 := hX8.set3 n3
    simp only at hX9
    clear hB8 hS8 hR8 hX8
    refine (HM5 _ (HG.out.below hB9)).out.mono ?_
    rintro x W10 ⟨v10, rfl, hb10⟩
    have hB10 := hB9.trans (hb10.mono hB9.size)
    have hS10 := hS9.below hb10
    have hR10 := hR9.below hb10
    have hX10 := hX9.below hb10
    clear hB9 hS9 hR9 hX9 hb10
    obtain ⟨y0, y1, y2, y3, y4, y5, y6⟩ := hX10.ev
    have yf := hX10.fz
    simp only at y0 y1 y2 y3 y4 y5 y6
    have u5 := hS10.c5
    go_wp2_with fail
    clear y0 y1 y2 y3 y4 y5 y6 yf u5
    have hB11 := hB10.setCell (p := ⟨xb, 4, none⟩) hxle (.int .i64 m5)
    have hS11 := hS10.other (c := xb) (k := 4) (v := .int .i64 m5) hne
    have hR11 := hR10.other (c := xb) (k := 4) (v := .int .i64 m5) hxr
    have hX11 := hX10.set4 m5
    simp only at hX11
    clear hB10 hS10 hR10 hX10
    refine (HTk.out _ (HG.out.below hB11)).mono ?_
    rintro x W12 ⟨rfl, hb12⟩
    have hB12 := hB11.trans (hb12.mono hB11.size)
    obtain ⟨y0, y1, y2, y3, y4, y5, y6⟩ := (hX11.below hb12).ev
    obtain ⟨r0, r1, r2, r3, r4, r5, r6⟩ := (hR11.below hb12).ev
    have rf := (hR11.below hb12).fz
    simp only at y0 y1 y2 y3 y4 y5 y6 r0 r1 r2 r3 r4 r5 r6
    clear hB11 hS11 hR11 hX11 hb12 HTk HG HN
    rcases HEk.out with ⟨rfl, hcmp, rfl, rfl⟩ | ⟨rfl, hcmp, rfl, rfl⟩ | ⟨rfl, rfl, rfl⟩
    · clear HEk
      go_wp2
      refine bodyPost_ret (v := .tuple #[.agg #[.int .i64 0, .string p2, .int .i64 1, .int .i64 n3, .int .i64 m5, .int .i64 0, .int .i64 d], .int .i64 0]) (by simp [results, Tryz.results36, go_sem, *]) rfl ⟨rfl, ?_⟩
      exact ((((((hB12.setCell (Nat.le_refl _) _).setCell (Nat.le_refl _) _).setCell (Nat.le_refl _) _).setCell (Nat.le_refl _) _).setCell (Nat.le_refl _) _).setCell (Nat.le_refl _) _).setCell (Nat.le_refl _) _
    · clear HEk
      go_wp2
      refine bodyPost_ret (v := .tuple #[.agg #[.int .i64 0, .string ⟨#[]⟩, .int .i64 0, .int .i64 0, .int .i64 0, .int .i64 0, .int .i64 0], .int .i64 3]) (by simp [results, Tryz.results36, go_sem, *]) rfl ⟨rfl, ?_⟩
      exact ((((((hB12.setCell (Nat.le_refl _) _).setCell (Nat.le_refl _) _).setCell (Nat.le_refl _) _).setCell (Nat.le_refl _) _).setCell (Nat.le_refl _) _).setCell (Nat.le_refl _) _).setCell (Nat.le_refl _) _
    · clear HEk
      go_wp2
      refine bodyPost_ret (v := .tuple #[.agg #[.int .i64 0, .string ⟨#[]⟩, .int .i64 0, .int .i64 0, .int .i64 0, .int .i64 0, .int .i64 0], .int .i64 3]) (by simp [results, Tryz.results36, go_sem, *]) rfl ⟨rfl, ?_⟩
      exact ((((((hB12.setCell (Nat.le_refl _) _).setCell (Nat.le_refl _) _).setCell (Nat.le_refl _) _).setCell (Nat.le_refl _) _).setCell (Nat.le_refl _) _).setCell (Nat.le_refl _) _).setCell (Nat.le_refl _) _
  by_cases e2 : p1.data.toList = wordOf 2
  · have hk : kindOf p1.data.toList = 2 := by rw [e2]; rfl
    have HTk : Hid (∀ v, Glob v → Calls Tryz.prog 34 #[.agg #[.int .i64 0, .string p2, .int .i64 2, .int .i64 0, .int .i64 m3, .int .i64 n5, .int .i64 d]] v fun x w' => x = .returned (.tuple #[.string t, .int .i64 kx]) ∧ Below v.heap.size v w') := by
      have := HT.out; rw [hk] at this; exact this
    have HEk : Hid ((kx = 0 ∧ (t.toList == s.toList) = true ∧ out = ⟨0, p2, 2, 0, m3, n5, d⟩ ∧ kk = 0) ∨ (kx = 0 ∧ (t.toList == s.toList) = false ∧ out = ev0 ∧ kk = 3) ∨ (kx = 1 ∧ out = ev0 ∧ kk = 3)) := by
      have := HE.out; rw [hk] at this; exact this
    have r1 : (x1.toList == p1.toList) = false := by rw [Q1.out, e2]; decide
    have r2 : (x2.toList == p1.toList) = true := by rw [Q2.out]; exact decide_eq_true e2
    have r3 : (x3.toList == p1.toList) = false := by rw [Q3.out, e2]; decide
    have r4 : (x4.toList == p1.toList) = false := by rw [Q4.out, e2]; decide
    clear HT HE Q1 Q2 Q3 Q4 hk e2 e1
    refine wp_loop_rounds 5 ?_
    rw [rounds_succ]
    go_wp2
    rw [rounds_succ]
    go_wp2
    rw [rounds_succ]
    go_wp2
    rw [rounds_succ]
    go_wp2
    rw [rounds_succ]
    go_wp2_with fail
    clear r1 r2 r3 r4 b1 b2 b3 b4 u1 k2 kf u3
    have hB7 := hB6.setCell (p := ⟨xb, 2, none⟩) hxle (.int .i64 2)
    have hS7 := hS6.other (c := xb) (k := 2) (v := .int .i64 2) hne
    have hR7 := hR6.other (c := xb) (k := 2) (v := .int .i64 2) hxr
    have hX7 := hX6.set2 2
    simp only at hX7
    clear hB6 hS6 hR6 hX6
    refine (HM3 _ (HG.out.below hB7)).out.mono ?_
    rintro x W8 ⟨v8, rfl, hb8⟩
    have hB8 := hB7.trans (hb8.mono hB7.size)
    have hS8 := hS7.below hb8
    have hR8 := hR7.below hb8
    have hX8 := hX7.below hb8
    clear hB7 hS7 hR7 hX7 hb8
    obtain ⟨y0, y1, y2, y3, y4, y5, y6⟩ := hX8.ev
    have yf := hX8.fz
    simp only at y0 y1 y2 y3 y4 y5 y6
    have u5 := hS8.c5
    go_wp2_with fail
    clear y0 y1 y2 y3 y4 y5 y6 yf u5
    have hB9 := hB8.setCell (p := ⟨xb, 4, none⟩) hxle (.int .i64 m3)
    have hS9 := hS8.other (c := xb) (k := 4) (v := .int .i64 m3) hne
    have hR9 := hR8.other (c := xb) (k := 4) (v := .int .i64 m3) hxr
    have hX9 := hX8.set4 m3
    simp only at hX9
    clear hB8 hS8 hR8 hX8
    refine (HA5 _ (HG.out.below hB9)).out.mono ?_
    rintro x W10 ⟨v10, rfl, hb10⟩
    have hB10 := hB9.trans (hb10.mono hB9.size)
    have hS10 := hS9.below hb10
    have hR10 := hR9.below hb10
    have hX10 := hX9.below hb10
    clear hB9 hS9 hR9 hX9 hb10
    obtain ⟨y0, y1, y2, y3, y4, y5, y6⟩ := hX10.ev
    have yf := hX10.fz
    simp only at y0 y1 y2 y3 y4 y5 y6
    have u5 := hS10.c5
    go_wp2_with fail
    clear y0 y1 y2 y3 y4 y5 y6 yf u5
    have hB11 := hB10.setCell (p := ⟨xb, 5, none⟩) hxle (.int .i64 n5)
    have hS11 := hS10.other (c := xb) (k := 5) (v := .int .i64 n5) hne
    have hR11 := hR10.other (c := xb) (k := 5) (v := .int .i64 n5) hxr
    have hX11 := hX10.set5 n5
    simp only at hX11
    clear hB10 hS10 hR10 hX10
    refine (HTk.out _ (HG.out.below hB11)).mono ?_
    rintro x W12 ⟨rfl, hb12⟩
    have hB12 := hB11.trans (hb12.mono hB11.size)
    obtain ⟨y0, y1, y2, y3, y4, y5, y6⟩ := (hX11.below hb12).ev
    obtain ⟨r0, r1, r2, r3, r4, r5, r6⟩ := (hR11.below hb12).ev
    have rf := (hR11.below hb12).fz
    simp only at y0 y1 y2 y3 y4 y5 y6 r0 r1 r2 r3 r4 r5 r6
    clear hB11 hS11 hR11 hX11 hb12 HTk HG HN
    rcases HEk.out with ⟨rfl, hcmp, rfl, rfl⟩ | ⟨rfl, hcmp, rfl, rfl⟩ | ⟨rfl, rfl, rfl⟩
    · clear HEk
      go_wp2
      refine bodyPost_ret (v := .tuple #[.agg #[.int .i64 0, .string p2, .int .i64 2, .int .i64 0, .int .i64 m3, .int .i64 n5, .int .i64 d], .int .i64 0]) (by simp [results, Tryz.results36, go_sem, *]) rfl ⟨rfl, ?_⟩
      exact ((((((hB12.setCell (Nat.le_refl _) _).setCell (Nat.le_refl _) _).setCell (Nat.le_refl _) _).setCell (Nat.le_refl _) _).setCell (Nat.le_refl _) _).setCell (Nat.le_refl _) _).setCell (Nat.le_refl _) _
    · clear HEk
      go_wp2
      refine bodyPost_ret (v := .tuple #[.agg #[.int .i64 0, .string ⟨#[]⟩, .int .i64 0, .int .i64 0, .int .i64 0, .int .i64 0, .int .i64 0], .int .i64 3]) (by simp [results, Tryz.results36, go_sem, *]) rfl ⟨rfl, ?_⟩
      exact ((((((hB12.setCell (Nat.le_refl _) _).setCell (Nat.le_refl _) _).setCell (Nat.le_refl _) _).setCell (Nat.le_refl _) _).setCell (Nat.le_refl _) _).setCell (Nat.le_refl _) _).setCell (Nat.le_refl _) _
    · clear HEk
      go_wp2
      refine bodyPost_ret (v := .tuple #[.agg #[.int .i64 0, .string ⟨#[]⟩, .int .i64 0, .int .i64 0, .int .i64 0, .int .i64 0, .int .i64 0], .int .i64 3]) (by simp [results, Tryz.results36, go_sem, *]) rfl ⟨rfl, ?_⟩
      exact ((((((hB12.setCell (Nat.le_refl _) _).setCell (Nat.le_refl _) _).setCell (Nat.le_refl _) _).setCell (Nat.le_refl _) _).setCell (Nat.le_refl _) _).setCell (Nat.le_refl _) _).setCell (Nat.le_refl _) _
  by_cases e3 : p1.data.toList = wordOf 3
  · have hk : kindOf p1.data.toList = 3 := by rw [e3]; rfl
    have HTk : Hid (∀ v, Glob v → Calls Tryz.prog 34 #[.agg #[.int .i64 0, .string p2, .int .i64 3, .int .i64 n3, .int .i64 0, .int .i64 0, .int .i64 d]] v fun x w' => x = .returned (.tuple #[.string t, .int .i64 kx]) ∧ Below v.heap.size v w') := by
      have := HT.out; rw [hk] at this; exact this
    have HEk : Hid ((kx = 0 ∧ (t.toList == s.toList) = true ∧ out = ⟨0, p2, 3, n3, 0, 0, d⟩ ∧ kk = 0) ∨ (kx = 0 ∧ (t.toList == s.toList) = false ∧ out = ev0 ∧ kk = 3) ∨ (kx = 1 ∧ out = ev0 ∧ kk = 3)) := by
      have := HE.out; rw [hk] at this; exact this
    have r1 : (x1.toList == p1.toList) = false := by rw [Q1.out, e3]; decide
    have r2 : (x2.toList == p1.toList) = false := by rw [Q2.out, e3]; decide
    have r3 : (x3.toList == p1.toList) = true := by rw [Q3.out]; exact decide_eq_true e3
    have r4 : (x4.toList == p1.toList) = false := by rw [Q4.out, e3]; decide
    clear HT HE Q1 Q2 Q3 Q4 hk e3 e1 e2
    refine wp_loop_rounds 5 ?_
    rw [rounds_succ]
    go_wp2
    rw [rounds_succ]
    go_wp2
    rw [rounds_succ]
    go_wp2
    rw [rounds_succ]
    go_wp2
    rw [rounds_succ]
    go_wp2_with fail
    clear r1 r2 r3 r4 b1 b2 b3 b4 u1 k2 kf u3
    have hB7 := hB6.setCell (p := ⟨xb, 2, none⟩) hxle (.int .i64 3)
    have hS7 := hS6.other (c := xb) (k := 2) (v := .int .i64 3) hne
    have hR7 := hR6.other (c := xb) (k := 2) (v := .int .i64 3) hxr
    have hX7 := hX6.set2 3
    simp only at hX7
    clear hB6 hS6 hR6 hX6
    refine (HA3 _ (HG.out.below hB7)).out.mono ?_
    rintro x W8 ⟨v8, rfl, hb8⟩
    have hB8 := hB7.trans (hb8.mono hB7.size)
    have hS8 := hS7.below hb8
    have hR8 := hR7.below hb8
    have hX8 := hX7.below hb8
    clear hB7 hS7 hR7 hX7 hb8
    obtain ⟨y0, y1, y2, y3, y4, y5, y6⟩ := hX8.ev
    have yf := hX8.fz
    simp only at y0 y1 y2 y3 y4 y5 y6
    have u5 := hS8.c5
    go_wp2_with fail
    clear y0 y1 y2 y3 y4 y5 y6 yf u5
    have hB9 := hB8.setCell (p := ⟨xb, 3, none⟩) hxle (.int .i64 n3)
    have hS9 := hS8.other (c := xb) (k := 3) (v := .int .i64 n3) hne
    have hR9 := hR8.other (c := xb) (k := 3) (v := .int .i64 n3) hxr
    have hX9 := hX8.set3 n3
    simp only at hX9
    clear hB8 hS8 hR8 hX8
    refine (HTk.out _ (HG.out.below hB9)).mono ?_
    rintro x W12 ⟨rfl, hb12⟩
    have hB12 := hB9.trans (hb12.mono hB9.size)
    obtain ⟨y0, y1, y2, y3, y4, y5, y6⟩ := (hX9.below hb12).ev
    obtain ⟨r0, r1, r2, r3, r4, r5, r6⟩ := (hR9.below hb12).ev
    have rf := (hR9.below hb12).fz
    simp only at y0 y1 y2 y3 y4 y5 y6 r0 r1 r2 r3 r4 r5 r6
    clear hB9 hS9 hR9 hX9 hb12 HTk HG HN
    rcases HEk.out with ⟨rfl, hcmp, rfl, rfl⟩ | ⟨rfl, hcmp, rfl, rfl⟩ | ⟨rfl, rfl, rfl⟩
    · clear HEk
      go_wp2
      refine bodyPost_ret (v := .tuple #[.agg #[.int .i64 0, .string p2, .int .i64 3, .int .i64 n3, .int .i64 0, .int .i64 0, .int .i64 d], .int .i64 0]) (by simp [results, Tryz.results36, go_sem, *]) rfl ⟨rfl, ?_⟩
      exact ((((((hB12.setCell (Nat.le_refl _) _).setCell (Nat.le_refl _) _).setCell (Nat.le_refl _) _).setCell (Nat.le_refl _) _).setCell (Nat.le_refl _) _).setCell (Nat.le_refl _) _).setCell (Nat.le_refl _) _
    · clear HEk
      go_wp2
      refine bodyPost_ret (v := .tuple #[.agg #[.int .i64 0, .string ⟨#[]⟩, .int .i64 0, .int .i64 0, .int .i64 0, .int .i64 0, .int .i64 0], .int .i64 3]) (by simp [results, Tryz.results36, go_sem, *]) rfl ⟨rfl, ?_⟩
      exact ((((((hB12.setCell (Nat.le_refl _) _).setCell (Nat.le_refl _) _).setCell (Nat.le_refl _) _).setCell (Nat.le_refl _) _).setCell (Nat.le_refl _) _).setCell (Nat.le_refl _) _).setCell (Nat.le_refl _) _
    · clear HEk
      go_wp2
      refine bodyPost_ret (v := .tuple #[.agg #[.int .i64 0, .string ⟨#[]⟩, .int .i64 0, .int .i64 0, .int .i64 0, .int .i64 0, .int .i64 0], .int .i64 3]) (by simp [results, Tryz.results36, go_sem, *]) rfl ⟨rfl, ?_⟩
      exact ((((((hB12.setCell (Nat.le_refl _) _).setCell (Nat.le_refl _) _).setCell (Nat.le_refl _) _).setCell (Nat.le_refl _) _).setCell (Nat.le_refl _) _).setCell (Nat.le_refl _) _).setCell (Nat.le_refl _) _
  by_cases e4 : p1.data.toList = wordOf 4
  · have hk : kindOf p1.data.toList = 4 := by rw [e4]; rfl
    have HTk : Hid (∀ v, Glob v → Calls Tryz.prog 34 #[.agg #[.int .i64 0, .string p2, .int .i64 4, .int .i64 n3, .int .i64 0, .int .i64 0, .int .i64 d]] v fun x w' => x = .returned (.tuple #[.string t, .int .i64 kx]) ∧ Below v.heap.size v w') := by
      have := HT.out; rw [hk] at this; exact this
    have HEk : Hid ((kx = 0 ∧ (t.toList == s.toList) = true ∧ out = ⟨0, p2, 4, n3, 0, 0, d⟩ ∧ kk = 0) ∨ (kx = 0 ∧ (t.toList == s.toList) = false ∧ out = ev0 ∧ kk = 3) ∨ (kx = 1 ∧ out = ev0 ∧ kk = 3)) := by
      have := HE.out; rw [hk] at this; exact this
    have r1 : (x1.toList == p1.toList) = false := by rw [Q1.out, e4]; decide
    have r2 : (x2.toList == p1.toList) = false := by rw [Q2.out, e4]; decide
    have r3 : (x3.toList == p1.toList) = false := by rw [Q3.out, e4]; decide
    have r4 : (x4.toList == p1.toList) = true := by rw [Q4.out]; exact decide_eq_true e4
    clear HT HE Q1 Q2 Q3 Q4 hk e4 e1 e2 e3
    refine wp_loop_rounds 5 ?_
    rw [rounds_succ]
    go_wp2
    rw [rounds_succ]
    go_wp2
    rw [rounds_succ]
    go_wp2
    rw [rounds_succ]
    go_wp2
    rw [rounds_succ]
    go_wp2_with fail
    clear r1 r2 r3 r4 b1 b2 b3 b4 u1 k2 kf u3
    have hB7 := hB6.setCell (p := ⟨xb, 2, none⟩) hxle (.int .i64 4)
    have hS7 := hS6.other (c := xb) (k := 2) (v := .int .i64 4) hne
    have hR7 := hR6.other (c := xb) (k := 2) (v := .int .i64 4) hxr
    have hX7 := hX6.set2 4
    simp only at hX7
    clear hB6 hS6 hR6 hX6
    refine (HA3 _ (HG.out.below hB7)).out.mono ?_
    rintro x W8 ⟨v8, rfl, hb8⟩
    have hB8 := hB7.trans (hb8.mono hB7.size)
    have hS8 := hS7.below hb8
    have hR8 := hR7.below hb8
    have hX8 := hX7.below hb8
    clear hB7 hS7 hR7 hX7 hb8
    obtain ⟨y0, y1, y2, y3, y4, y5, y6⟩ := hX8.ev
    have yf := hX8.fz
    simp only at y0 y1 y2 y3 y4 y5 y6
    have u5 := hS8.c5
    go_wp2_with fail
    clear y0 y1 y2 y3 y4 y5 y6 yf u5
    have hB9 := hB8.setCell (p := ⟨xb, 3, none⟩) hxle (.int .i64 n3)
    have hS9 := hS8.other (c := xb) (k := 3) (v := .int .i64 n3) hne
    have hR9 := hR8.other (c := xb) (k := 3) (v := .int .i64 n3) hxr
    have hX9 := hX8.set3 n3
    simp only at hX9
    clear hB8 hS8 hR8 hX8
    refine (HTk.out _ (HG.out.below hB9)).mono ?_
    rintro x W12 ⟨rfl, hb12⟩
    have hB12 := hB9.trans (hb12.mono hB9.size)
    obtain ⟨y0, y1, y2, y3, y4, y5, y6⟩ := (hX9.below hb12).ev
    obtain ⟨r0, r1, r2, r3, r4, r5, r6⟩ := (hR9.below hb12).ev
    have rf := (hR9.below hb12).fz
    simp only at y0 y1 y2 y3 y4 y5 y6 r0 r1 r2 r3 r4 r5 r6
    clear hB9 hS9 hR9 hX9 hb12 HTk HG HN
    rcases HEk.out with ⟨rfl, hcmp, rfl, rfl⟩ | ⟨rfl, hcmp, rfl, rfl⟩ | ⟨rfl, rfl, rfl⟩
    · clear HEk
      go_wp2
      refine bodyPost_ret (v := .tuple #[.agg #[.int .i64 0, .string p2, .int .i64 4, .int .i64 n3, .int .i64 0, .int .i64 0, .int .i64 d], .int .i64 0]) (by simp [results, Tryz.results36, go_sem, *]) rfl ⟨rfl, ?_⟩
      exact ((((((hB12.setCell (Nat.le_refl _) _).setCell (Nat.le_refl _) _).setCell (Nat.le_refl _) _).setCell (Nat.le_refl _) _).setCell (Nat.le_refl _) _).setCell (Nat.le_refl _) _).setCell (Nat.le_refl _) _
    · clear HEk
      go_wp2
      refine bodyPost_ret (v := .tuple #[.agg #[.int .i64 0, .string ⟨#[]⟩, .int .i64 0, .int .i64 0, .int .i64 0, .int .i64 0, .int .i64 0], .int .i64 3]) (by simp [results, Tryz.results36, go_sem, *]) rfl ⟨rfl, ?_⟩
      exact ((((((hB12.setCell (Nat.le_refl _) _).setCell (Nat.le_refl _) _).setCell (Nat.le_refl _) _).setCell (Nat.le_refl _) _).setCell (Nat.le_refl _) _).setCell (Nat.le_refl _) _).setCell (Nat.le_refl _) _
    · clear HEk
      go_wp2
      refine bodyPost_ret (v := .tuple #[.agg #[.int .i64 0, .string ⟨#[]⟩, .int .i64 0, .int .i64 0, .int .i64 0, .int .i64 0, .int .i64 0], .int .i64 3]) (by simp [results, Tryz.results36, go_sem, *]) rfl ⟨rfl, ?_⟩
      exact ((((((hB12.setCell (Nat.le_refl _) _).setCell (Nat.le_refl _) _).setCell (Nat.le_refl _) _).setCell (Nat.le_refl _) _).setCell (Nat.le_refl _) _).setCell (Nat.le_refl _) _).setCell (Nat.le_refl _) _
  have hk : kindOf p1.data.toList = 0 := by
    unfold kindOf
    rw [if_neg (show ¬ p1.data.toList = [105, 110] from e1), if_neg (show ¬ p1.data.toList = [99, 104, 97, 114, 103, 101] from e2), if_neg (show ¬ p1.data.toList = [111, 117, 116] from e3), if_neg (show ¬ p1.data.toList = [99, 111, 117, 110, 116] from e4)]
  have HTk : Hid (∀ v, Glob v → Calls Tryz.prog 34 #[.agg #[.int .i64 0, .string p2, .int .i64 0, .int .i64 n3, .int .i64 0, .int .i64 0, .int .i64 d]] v fun x w' => x = .returned (.tuple #[.string t, .int .i64 kx]) ∧ Below v.heap.size v w') := by
    have := HT.out; rw [hk] at this; exact this
  have HEk : Hid ((kx = 0 ∧ (t.toList == s.toList) = true ∧ out = ⟨0, p2, 0, n3, 0, 0, d⟩ ∧ kk = 0) ∨ (kx = 0 ∧ (t.toList == s.toList) = false ∧ out = ev0 ∧ kk = 3) ∨ (kx = 1 ∧ out = ev0 ∧ kk = 3)) := by
    have := HE.out; rw [hk] at this; exact this
  have r1 : (x1.toList == p1.toList) = false := by rw [Q1.out]; exact decide_eq_false e1
  have r2 : (x2.toList == p1.toList) = false := by rw [Q2.out]; exact decide_eq_false e2
  have r3 : (x3.toList == p1.toList) = false := by rw [Q3.out]; exact decide_eq_false e3
  have r4 : (x4.toList == p1.toList) = false := by rw [Q4.out]; exact decide_eq_false e4
  clear HT HE Q1 Q2 Q3 Q4 hk e1 e2 e3 e4
  refine wp_loop_rounds 5 ?_
  rw [rounds_succ]
  go_wp2
  rw [rounds_succ]
  go_wp2
  rw [rounds_succ]
  go_wp2
  rw [rounds_succ]
  go_wp2
  rw [rounds_succ]
  go_wp2_with fail
  clear r1 r2 r3 r4 b1 b2 b3 b4 u1 k2 kf u3
  have hB7 := hB6; have hS7 := hS6; have hR7 := hR6; have hX7 := hX6
  clear hB6 hS6 hR6 hX6
  refine (HA3 _ (HG.out.below hB7)).out.mono ?_
  rintro x W8 ⟨v8, rfl, hb8⟩
  have hB8 := hB7.trans (hb8.mono hB7.size)
  have hS8 := hS7.below hb8
  have hR8 := hR7.below hb8
  have hX8 := hX7.below hb8
  clear hB7 hS7 hR7 hX7 hb8
  obtain ⟨y0, y1, y2, y3, y4, y5, y6⟩ := hX8.ev
  have yf := hX8.fz
  simp only at y0 y1 y2 y3 y4 y5 y6
  have u5 := hS8.c5
  go_wp2_with fail
  clear y0 y1 y2 y3 y4 y5 y6 yf u5
  have hB9 := hB8.setCell (p := ⟨xb, 3, none⟩) hxle (.int .i64 n3)
  have hS9 := hS8.other (c := xb) (k := 3) (v := .int .i64 n3) hne
  have hR9 := hR8.other (c := xb) (k := 3) (v := .int .i64 n3) hxr
  have hX9 := hX8.set3 n3
  simp only at hX9
  clear hB8 hS8 hR8 hX8
  refine (HTk.out _ (HG.out.below hB9)).mono ?_
  rintro x W12 ⟨rfl, hb12⟩
  have hB12 := hB9.trans (hb12.mono hB9.size)
  obtain ⟨y0, y1, y2, y3, y4, y5, y6⟩ := (hX9.below hb12).ev
  obtain ⟨r0, r1, r2, r3, r4, r5, r6⟩ := (hR9.below hb12).ev
  have rf := (hR9.below hb12).fz
  simp only at y0 y1 y2 y3 y4 y5 y6 r0 r1 r2 r3 r4 r5 r6
  clear hB9 hS9 hR9 hX9 hb12 HTk HG HN
  rcases HEk.out with ⟨rfl, hcmp, rfl, rfl⟩ | ⟨rfl, hcmp, rfl, rfl⟩ | ⟨rfl, rfl, rfl⟩
  · clear HEk
    go_wp2
    refine bodyPost_ret (v := .tuple #[.agg #[.int .i64 0, .string p2, .int .i64 0, .int .i64 n3, .int .i64 0, .int .i64 0, .int .i64 d], .int .i64 0]) (by simp [results, Tryz.results36, go_sem, *]) rfl ⟨rfl, ?_⟩
    exact ((((((hB12.setCell (Nat.le_refl _) _).setCell (Nat.le_refl _) _).setCell (Nat.le_refl _) _).setCell (Nat.le_refl _) _).setCell (Nat.le_refl _) _).setCell (Nat.le_refl _) _).setCell (Nat.le_refl _) _
  · clear HEk
    go_wp2
    refine bodyPost_ret (v := .tuple #[.agg #[.int .i64 0, .string ⟨#[]⟩, .int .i64 0, .int .i64 0, .int .i64 0, .int .i64 0, .int .i64 0], .int .i64 3]) (by simp [results, Tryz.results36, go_sem, *]) rfl ⟨rfl, ?_⟩
    exact ((((((hB12.setCell (Nat.le_refl _) _).setCell (Nat.le_refl _) _).setCell (Nat.le_refl _) _).setCell (Nat.le_refl _) _).setCell (Nat.le_refl _) _).setCell (Nat.le_refl _) _).setCell (Nat.le_refl _) _
  · clear HEk
    go_wp2
    refine bodyPost_ret (v := .tuple #[.agg #[.int .i64 0, .string ⟨#[]⟩, .int .i64 0, .int .i64 0, .int .i64 0, .int .i64 0, .int .i64 0], .int .i64 3]) (by simp [results, Tryz.results36, go_sem, *]) rfl ⟨rfl, ?_⟩
    exact ((((((hB12.setCell (Nat.le_refl _) _).setCell (Nat.le_refl _) _).setCell (Nat.le_refl _) _).setCell (Nat.le_refl _) _).setCell (Nat.le_refl _) _).setCell (Nat.le_refl _) _).setCell (Nat.le_refl _) _
end Go.Proofs.YtapkandekfndoaaGreatDoor
