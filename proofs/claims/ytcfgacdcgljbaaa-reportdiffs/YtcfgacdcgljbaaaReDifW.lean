/- The walk of tallymankeep.ReportDiffs. -/
import Derived.Test.YtcfgacdcgljbaaaReMore
import Derived.Test.YtcfgacdcgljbaaaPrSame
import Derived.Test.YtcfgacdcgljbaaaReMade
import Derived.Test.YtcfgacdcgljbaaaReRep
import Derived.Test.YtcfgacdcgljbaaaBnS
import Derived.Laws.EntriesVeiled
namespace Go.Proofs.Ytcfgacdcgljbaaa
open Go.RowKit Go.Maps Go.Shelf
theorem up_mem {b : Bk} {n t : Int} {e : Ev} (h : e ∈ evUp b n t) : ∃ v ∈ b.vs, v.ev = e := by
  unfold evUp at h
  have h1 := (srt_perm _).mem_iff.1 (List.mem_filter.1 h).1
  unfold asOf at h1
  obtain ⟨v, hv, rfl⟩ := List.mem_map.1 h1
  exact ⟨v, (List.mem_filter.1 hv).1, rfl⟩
theorem up_ew {b : Bk} (hi : Inv b) (n t : Int) : ∀ e ∈ evUp b n t, EvW e := fun e he => by
  obtain ⟨v, hv, rfl⟩ := up_mem he
  exact hi.ew v hv
theorem same_cs {M : Stks} {cs : List ByteArray} (h : Keys (fun z => dfQ M M z ≠ 0 ∨ dfV M M z ≠ 0) cs) : cs = [] := by
  cases cs with
  | nil => rfl
  | cons b l =>
    have := (h.mem b).1 (by simp)
    unfold dfQ dfV at this
    omega
theorem PM.grown {W w' : World} {mb n o : Nat} {D : DataW Value} {q v : ByteArray → Int} (h : PM W mb n D q v) (hg : W.grownBy w' (some o)) (hne : mb ≠ o) : PM w' mb n D q v := PMap.same h (hg.block mb (PMap.lt h) (fun e => hne (by cases e; rfl)))
theorem bookat_grown {w w' : World} {B pb o : Nat} {sv : Value} {b : Bk} (h : BookAt w B pb sv b) (hg : w.grownBy w' (some o)) (ho : ∀ k, sv.ownBlock = some k → k ≠ o) (hp : pb ≠ o) : BookAt w' B pb sv b := by
  have hb := hg.block pb h.lt (fun e => hp (by cases e; rfl))
  refine ⟨(World.cell?_of_block (a := ⟨pb, 0, none⟩) hb).trans h.c0, (World.cell?_of_block (a := ⟨pb, 1, none⟩) hb).trans h.c1, (World.cell?_of_block (a := ⟨pb, 2, none⟩) hb).trans h.c2, (World.frozen?_of_block (a := ⟨pb, 0, none⟩) hb).trans h.f0, (World.frozen?_of_block (a := ⟨pb, 1, none⟩) hb).trans h.f1, (World.frozen?_of_block (a := ⟨pb, 2, none⟩) hb).trans h.f2, row_same h.own (fun k hk => ?_), h.ne, h.ge⟩
  exact hg.block k (h.block k hk).2 (fun e => ho k hk (by cases e; rfl))
/-- The book, and the three cells that the closures look into. -/
structure DEnv (W : World) (B S pb : Nat) (sv : Value) (b : Bk) (n : Int) (cb cn ca : Nat) : Prop where
  book : BookAt W B pb sv b
  kb : W.cell? ⟨cb, 0, none⟩ = some (.pointer (some ⟨pb, 0, none⟩))
  kn : W.cell? ⟨cn, 0, none⟩ = some (.int .i64 n)
  ka : W.cell? ⟨ca, 0, none⟩ = some (.func (.func 9) #[] #[])
  lp : pb < S
  ls : ∀ k, sv.ownBlock = some k → k < S
  lb : cb < S
  ln : cn < S
  la : ca < S
  sz : S ≤ W.heap.size
theorem DEnv.below {W W' : World} {B S pb : Nat} {sv : Value} {b : Bk} {n : Int} {cb cn ca : Nat} (h : DEnv W B S pb sv b n cb cn ca) (hb : Below W.heap.size W W') : DEnv W' B S pb sv b n cb cn ca :=
  ⟨h.book.below hb, (hb.cell (p := ⟨cb, 0, none⟩) (Nat.lt_of_lt_of_le h.lb h.sz)).trans h.kb, (hb.cell (p := ⟨cn, 0, none⟩) (Nat.lt_of_lt_of_le h.ln h.sz)).trans h.kn, (hb.cell (p := ⟨ca, 0, none⟩) (Nat.lt_of_lt_of_le h.la h.sz)).trans h.ka, h.lp, h.ls, h.lb, h.ln, h.la, Nat.le_trans h.sz hb.size⟩
theorem DEnv.grown {W W' : World} {B S pb o : Nat} {sv : Value} {b : Bk} {n : Int} {cb cn ca : Nat} (h : DEnv W B S pb sv b n cb cn ca) (hg : W.grownBy W' (some o)) (ho : S ≤ o) : DEnv W' B S pb sv b n cb cn ca :=
  ⟨bookat_grown h.book hg (fun k hk => by have := h.ls k hk; omega) (by have := h.lp; omega), (gr_cell hg (p := ⟨cb, 0, none⟩) (Nat.lt_of_lt_of_le h.lb h.sz) (show cb ≠ o by have := h.lb; omega)).trans h.kb,
    (gr_cell hg (p := ⟨cn, 0, none⟩) (Nat.lt_of_lt_of_le h.ln h.sz) (show cn ≠ o by have := h.ln; omega)).trans h.kn, (gr_cell hg (p := ⟨ca, 0, none⟩) (Nat.lt_of_lt_of_le h.la h.sz) (show ca ≠ o by have := h.la; omega)).trans h.ka, h.lp, h.ls, h.lb, h.ln, h.la, Nat.le_trans h.sz hg.size⟩
theorem DEnv.hold {W : World} {B S pb : Nat} {sv : Value} {b : Bk} {n : Int} {cb cn ca : Nat} (h : DEnv W B S pb sv b n cb cn ca) (hi : Inv b) (t : Int) :
    Calls Try.prog 10 #[.int .i64 t, .pointer (some ⟨cb, 0, none⟩), .pointer (some ⟨cn, 0, none⟩), .pointer (some ⟨ca, 0, none⟩)] W fun r w' => ∃ (mb m : Nat) (D : DataW Value), r = .returned (.map (some mb)) ∧ W.heap.size ≤ mb ∧ m ≤ 10000 ∧ PM w' mb m D (fun z => sumQ (stUp b n t z).ys) (fun z => sumV (stUp b n t z).ys) ∧ Below W.heap.size W w' :=
  hold_any h.book (by have := hi.full; omega) n t (up_ew hi n t) cb cn ca h.kb h.kn h.ka
theorem DEnv.more {W : World} {B S pb : Nat} {sv : Value} {b : Bk} {n : Int} {cb cn ca : Nat} (h : DEnv W B S pb sv b n cb cn ca) (hi : Inv b) (t1 t2 : Int) {mb m0 : Nat} {D0 : DataW Value} (hS : S ≤ mb) (hm0 : m0 ≤ 100000) (hpm0 : PM W mb m0 D0 (fun z => sumQ (stUp b n t1 z).ys) (fun z => sumV (stUp b n t1 z).ys)) :
    Calls Try.prog 12 #[.map (some mb), .int .i64 t1, .int .i64 t2, .pointer (some ⟨cb, 0, none⟩), .pointer (some ⟨cn, 0, none⟩), .pointer (some ⟨ca, 0, none⟩)] W fun r w' => r = .returned (.tuple #[]) ∧ (∃ (m : Nat) (D : DataW Value), m ≤ m0 + 2000 ∧ PM w' mb m D (fun z => sumQ (stUp b n t2 z).ys) (fun z => sumV (stUp b n t2 z).ys)) ∧ W.grownBy w' (some mb) :=
  more_any h.book (by have := hi.full; omega) n t1 t2 (up_ew hi n t1) (up_ew hi n t2) cb cn ca h.kb h.kn h.ka (by have := h.la; omega) hm0 hpm0
set_option maxRecDepth 20000 in
set_option maxHeartbeats 16000000 in
theorem diffs_walk (l : List Ac) (ao : Option Addr) (cap : Nat) (n a c d : Int) (w : World) (h : ActsAt w ao l) (hm : l.length ≤ maxLen) :
    Calls Try.prog 3 #[.slice ao l.length cap, .int .i64 n, .int .i64 a, .int .i64 c, .int .i64 d] w fun e w' => e = .returned (.bool true) ∧ Below w.heap.size w w' := by
  obtain ⟨w0, hw0⟩ : ∃ W, W = w.alloc (.cells #[.int .i64 n] 3) := ⟨_, rfl⟩
  have hb0 : Below w.heap.size w w0 := by rw [hw0]; exact (Below.refl _ _).alloc (Nat.le_refl _) _
  have hcn0 : w0.cell? ⟨w.heap.size, 0, none⟩ = some (.int .i64 n) := by rw [hw0]; simp
  have hA0 := h.below hb0 (Nat.le_refl _)
  have hsm := small_any l ao cap w0 hA0 hm
  have ln : w.heap.size < w0.heap.size := World.block_lt_of_cell? _ _ hcn0
  obtain ⟨cn, hcn⟩ : ∃ k, k = w.heap.size := ⟨_, rfl⟩
  rw [← hcn] at hcn0 ln
  have HW0 := hidE hw0
  have HCN := hidE hcn
  have HA0 := hidE hA0
  have HB0 := hidE hb0
  clear h hm hw0 hA0 hb0 hcn
  go_enter Try.func3, Try.ntmps3
  go_wp2_with fail
  rw [← HW0.out, ← HCN.out]
  refine hsm.mono ?_
  rintro e wx ⟨⟨bb, rfl, hbb⟩, rfl⟩
  clear hsm
  cases bb with
  | false =>
    go_wp2
    go_ret
    exact ⟨rfl, HB0.out⟩
  | true =>
    have h40 : l.length ≤ 40 := hbb rfl
    clear hbb
    go_wp2_with fail
    refine (reported_any _).mono ?_
    rintro e w1 ⟨rfl, hb1⟩
    have HMK := made_any l ao cap w1 (HA0.out.below hb1 (Nat.le_refl _)) h40
    have B1 : Below w.heap.size w w1 := HB0.out.trans (hb1.mono HB0.out.size)
    have kn1 := (hb1.cell (p := ⟨cn, 0, none⟩) ln).trans hcn0
    have s1 := hb1.size
    clear HA0 HB0 hcn0 hb1 HW0
    go_wp2_with fail
    refine HMK.mono ?_
    rintro e w2 ⟨b, sv, rfl, hbk, hinv, hbn, hb2⟩
    obtain ⟨pb, hpb⟩ : ∃ k, k = w1.heap.size := ⟨_, rfl⟩
    rw [← hpb] at hbk ⊢
    have B2 : Below w.heap.size w w2 := B1.trans (hb2.mono B1.size)
    have kn2 := (hb2.cell (p := ⟨cn, 0, none⟩) (show cn < w1.heap.size by omega)).trans kn1
    have s2 := hb2.size
    obtain ⟨w3, hw3⟩ : ∃ W, W = w2.alloc (.cells #[.pointer (some ⟨pb, 0, none⟩)] 25) := ⟨_, rfl⟩
    have hb3 : Below w2.heap.size w2 w3 := by rw [hw3]; exact (Below.refl _ _).alloc (Nat.le_refl _) _
    have kb3 : w3.cell? ⟨w2.heap.size, 0, none⟩ = some (.pointer (some ⟨pb, 0, none⟩)) := by rw [hw3]; simp
    have kn3 := (hb3.cell (p := ⟨cn, 0, none⟩) (show cn < w2.heap.size by omega)).trans kn2
    have hbk3 := hbk.below hb3
    have B3 : Below w.heap.size w w3 := B2.trans (hb3.mono B2.size)
    have lb3 : w2.heap.size < w3.heap.size := World.block_lt_of_cell? _ _ kb3
    obtain ⟨cb, hcb⟩ : ∃ k, k = w2.heap.size := ⟨_, rfl⟩
    rw [← hcb] at kb3 lb3
    have HTR := turn_any hbk3
    have lnb : cn < cb := by omega
    have hn0 := hinv.n0
    have HW3 := hidE hw3
    have HCB := hidE hcb
    have HPB := hidE hpb
    have HINV := hidE hinv
    have HBK3 := hidE hbk3
    have B3h := hidE B3
    clear HMK hbk hb2 B1 B2 hb3 hw3 kn1 kn2 hcb hpb hinv hbk3 B3
    go_wp2_with fail
    rw [← HW3.out, ← HCB.out]
    refine HTR.mono ?_
    rintro e wy ⟨rfl, rfl⟩
    have pa := pk_bd a (b.n + 1) (by omega)
    have pc := pk_bd c (b.n + 1) (by omega)
    have pd := pk_bd d (b.n + 1) (by omega)
    go_wp2_with (first
        | (go_at_call 8; refine (pick_any _ _ _ (by omega) (by omega)).mono ?_; rintro e w' ⟨rfl, hw⟩; subst w'))
    obtain ⟨ta, hta⟩ : ∃ k, k = pk a (b.n + 1) := ⟨_, rfl⟩
    obtain ⟨tc, htc⟩ : ∃ k, k = pk c (b.n + 1) := ⟨_, rfl⟩
    obtain ⟨td, htd⟩ : ∃ k, k = pk d (b.n + 1) := ⟨_, rfl⟩
    rw [← hta, ← htc, ← htd]
    clear hta htc htd pa pc pd HTR
    obtain ⟨w4, hw4⟩ : ∃ W, W = wy.alloc (.cells #[.func (.func 9) #[] #[]] 31) := ⟨_, rfl⟩
    have hb4 : Below wy.heap.size wy w4 := by rw [hw4]; exact (Below.refl _ _).alloc (Nat.le_refl _) _
    have ka4 : w4.cell? ⟨wy.heap.size, 0, none⟩ = some (.func (.func 9) #[] #[]) := by rw [hw4]; simp
    have la4 : wy.heap.size < w4.heap.size := World.block_lt_of_cell? _ _ ka4
    rw [← hw4]
    obtain ⟨ca, hca⟩ : ∃ k, k = wy.heap.size := ⟨_, rfl⟩
    rw [← hca] at ka4 la4 ⊢
    have HE4 : Hid (DEnv w4 pb w4.heap.size pb sv b n cb cn ca) :=
      ⟨HBK3.out.below hb4, (hb4.cell (p := ⟨cb, 0, none⟩) (show cb < wy.heap.size by omega)).trans kb3, (hb4.cell (p := ⟨cn, 0, none⟩) (show cn < wy.heap.size by omega)).trans kn3, ka4, by have := HBK3.out.lt; omega, fun k hk => by have := (HBK3.out.block k hk).2; omega, by omega, by omega, la4, Nat.le_refl _⟩
    have B4h : Hid (Below w.heap.size w w4) := B3h.out.trans (hb4.mono B3h.out.size)
    have sB := B4h.out.size
    clear hb4 hw4 hca kb3 kn3 HBK3 B3h ka4 la4 HW3 HCB HPB
    obtain ⟨S, hS⟩ : ∃ S, S = w4.heap.size := ⟨_, rfl⟩
    rw [← hS] at HE4 sB
    -- x := hold(a)
    have C5 := HE4.out.hold HINV.out ta
    refine C5.mono ?_
    rintro r w5 ⟨m1, n1, D1, rfl, hm1, hn1, hp1, hb5⟩
    have hS1 : S ≤ m1 := by omega
    have HE5 := hidE (HE4.out.below hb5)
    have B5h : Hid (Below w.heap.size w w5) := B4h.out.trans (hb5.mono B4h.out.size)
    have C6 := HE5.out.more HINV.out ta tc hS1 (by omega) hp1
    clear C5 HE4 B4h hb5 hp1 hm1 hS
    go_wp2_with fail
    refine C6.mono ?_
    rintro r w6 ⟨rfl, ⟨n2, D2, hn2, hp2⟩, hg6⟩
    have HE6 := hidE (HE5.out.grown hg6 hS1)
    have B6h : Hid (Below w.heap.size w w6) := B5h.out.grown hg6 B5h.out.size (fun j e => by cases e; omega)
    have C7 := HE6.out.hold HINV.out tc
    clear C6 HE5 B5h hg6
    go_wp2_with fail
    refine C7.mono ?_
    rintro r w7 ⟨m2, n3, D3, rfl, hm2, hn3, hp3, hb7⟩
    have C8 := samep_any (PMap.below hp2 hb7) hp3
    have HE7 := hidE (HE6.out.below hb7)
    have B7h : Hid (Below w.heap.size w w7) := B6h.out.trans (hb7.mono B6h.out.size)
    clear C7 HE6 B6h hb7 hp2 hp3
    go_wp2_with fail
    refine C8.mono ?_
    rintro r w8 ⟨rfl, hb8⟩
    have HE8 := hidE (HE7.out.below hb8)
    have B8h : Hid (Below w.heap.size w w8) := B7h.out.trans (hb8.mono B7h.out.size)
    have C9 := rediff_any HE8.out.book (by have := HINV.out.full; omega) n ta ta (up_ew HINV.out n ta) (up_ew HINV.out n ta)
    have kb8 := HE8.out.kb
    have kn8 := HE8.out.kn
    clear C8 HE7 B7h hb8
    go_wp2_with fail
    refine C9.mono ?_
    rintro r w9 ⟨v9, cs, rfl, hcs, ho9, hb9⟩
    obtain rfl := same_cs hcs
    obtain ⟨ad9, cp9, rfl⟩ := own_lenN ho9
    have HE9 := hidE (HE8.out.below hb9)
    have B9h : Hid (Below w.heap.size w w9) := B8h.out.trans (hb9.mono B8h.out.size)
    have C10 := HE9.out.hold HINV.out ta
    clear C9 HE8 B8h hb9 hcs ho9 kb8 kn8
    go_wp2_with fail
    refine C10.mono ?_
    rintro r w10 ⟨m3, n4, D4, rfl, hm3, hn4, hp4, hb10⟩
    have s9 := HE9.out.sz
    have hS3 : S ≤ m3 := by omega
    have HE10 := hidE (HE9.out.below hb10)
    have B10h : Hid (Below w.heap.size w w10) := B9h.out.trans (hb10.mono B9h.out.size)
    have C11 := HE10.out.more HINV.out ta td hS3 (by omega) hp4
    clear C10 HE9 B9h hb10 hp4 hm3
    go_wp2_with fail
    refine C11.mono ?_
    rintro r w11 ⟨rfl, ⟨n5, D5, hn5, hp5⟩, hg11⟩
    have HE11 := hidE (HE10.out.grown hg11 hS3)
    have B11h : Hid (Below w.heap.size w w11) := B10h.out.grown hg11 B10h.out.size (fun j e => by cases e; omega)
    have C12 := HE11.out.more HINV.out td tc hS3 (by omega) hp5
    clear C11 HE10 B10h hg11 hp5
    go_wp2_with fail
    refine C12.mono ?_
    rintro r w12 ⟨rfl, ⟨n6, D6, hn6, hp6⟩, hg12⟩
    have HE12 := hidE (HE11.out.grown hg12 hS3)
    have B12h : Hid (Below w.heap.size w w12) := B11h.out.grown hg12 B11h.out.size (fun j e => by cases e; omega)
    have C13 := HE12.out.hold HINV.out tc
    clear C12 HE11 B11h hg12
    go_wp2_with fail
    refine C13.mono ?_
    rintro r w13 ⟨m4, n7, D7, rfl, hm4, hn7, hp7, hb13⟩
    have C14 := samep_any (PMap.below hp6 hb13) hp7
    have B13h : Hid (Below w.heap.size w w13) := B12h.out.trans (hb13.mono B12h.out.size)
    clear C13 HE12 B12h hb13 hp6 hp7
    go_wp2_with fail
    refine C14.mono ?_
    rintro r w14 ⟨rfl, hb14⟩
    have B14h : Hid (Below w.heap.size w w14) := B13h.out.trans (hb14.mono B13h.out.size)
    clear C14 B13h hb14
    go_wp2
    go_ret
    exact ⟨rfl, B14h.out⟩
end Go.Proofs.Ytcfgacdcgljbaaa
