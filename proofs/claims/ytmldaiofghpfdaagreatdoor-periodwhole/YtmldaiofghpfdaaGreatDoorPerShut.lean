/- The walk of tallymankeep.shut: a fact. -/
import Derived.Test.YtmldaiofghpfdaaGreatDoorBnBoth
import Derived.Test.YtmldaiofghpfdaaGreatDoorErrTell
import Derived.Laws.StructEq
namespace Go.Proofs.YtmldaiofghpfdaaGreatDoor
open Go.RowKit Go.Maps
def se (i : Int) : Ev := ⟨i, ⟨#[97]⟩, 1, 2, 10, 0, 3⟩
def sb1 : Bk := ⟨[⟨se 1, 1, 0⟩], 1, 1⟩
def sF : Fig := ⟨20, 0, 0, 0, 0⟩
theorem se_w (i : Int) (hi : (Lit.int .i64 i).wf = true) : EvW (se i) := ⟨hi, (by show (⟨#[97]⟩ : ByteArray).size ≤ maxLen; decide), (by show (Lit.int .i64 1).wf = true; decide), (by show (Lit.int .i64 2).wf = true; decide), (by show (Lit.int .i64 10).wf = true; decide), (by show (Lit.int .i64 0).wf = true; decide), (by show (Lit.int .i64 3).wf = true; decide)⟩
theorem se_rt (i : Int) : Rt (se i) := by
  refine ⟨⟨⟨(by show 1 ≤ 1; decide), (by show 1 ≤ 10; decide)⟩, fun c hc => ?_, fun c hc => ?_⟩, ⟨(by show (0 : Int) ≤ 3; decide), (by show (3 : Int) ≤ 99999; decide)⟩, Or.inl ⟨rfl, ⟨(by show (1 : Int) ≤ 2; decide), (by show (2 : Int) ≤ 100000; decide)⟩, ⟨(by show (0 : Int) ≤ 10; decide), (by show (10 : Int) ≤ 1000000; decide)⟩, rfl⟩⟩
  · have hc' : c = 97 := by simpa [se] using hc.symm
    subst hc'; exact ⟨by decide, by decide⟩
  · have hc' : c = 97 := by simpa [se] using hc
    subst hc'; exact Or.inl ⟨by decide, by decide⟩
theorem sb1_is : postB bk0 (se 0) = sb1 := rfl
theorem sb1_inv : Inv sb1 := by
  have hs : StepA bk0 ⟨0, 0, se 0⟩ sb1 := Or.inl ⟨rfl, se_rt 0, by decide, rfl⟩
  exact inv_step inv_zero (se_w 0 (by decide)) (by decide) hs
theorem s_now : srt (asOf sb1 sb1.n) = [se 1] := by rw [show asOf sb1 sb1.n = [se 1] from rfl, srt_one]
theorem dK_jan {n : Int} (h0 : 0 ≤ n) (h1 : n ≤ 30) : dK n = 0 := (of_isDay (n := n) (k := 0) (d := n + 1) ⟨by omega, by rw [show klen 0 = 31 by decide]; omega, by simp [kfd]⟩).1
theorem dK_31 : dK 31 = 1 := (of_isDay (n := 31) (k := 1) (d := 1) ⟨by decide, by decide, by decide⟩).1
theorem s_ordd : ordd [se 1] = [se 1] := by
  unfold ordd
  rw [filter_rt (fun e he => by rw [List.mem_singleton] at he; rw [he]; exact se_rt 1)]
  exact List.perm_singleton.1 (stl_perm [se 1])
theorem sF_ok : sF.ok := by constructor <;> (unfold I64 sF; simp)
theorem s_line : figOf 1 (doE stk0 (se 1)).2 = sF := by
  have e : (doE stk0 (se 1)).2 = ⟨1, 20, 0, 0, false⟩ := by simp [doE, se]
  rw [e]
  simp [figOf, sF]
theorem s_mons : mons [se 1] = [⟨0, sF⟩] := by
  unfold mons
  rw [s_ordd]
  show [(⟨(dK 3 : Int), fig0.plus (figOf 1 (doE stk0 (se 1)).2)⟩ : Mon)] = _
  rw [dK_jan (by decide) (by decide), s_line, fig0_plus sF_ok]
  rfl
theorem s_untl {m : Int} (h : 0 ≤ m) : untl [se 1] m = sF := by
  unfold untl
  rw [s_mons]
  show (if (0 : Int) ≤ m then fig0.plus sF else fig0) = sF
  rw [if_pos h, fig0_plus sF_ok]
theorem s_open : unp (untl (srt (asOf sb1 sb1.n)) 3300) [⟨0, 1, sF⟩] = fig0 := by
  rw [s_now, s_untl (by decide)]
  simp [unp, Fig.minus, sF, fig0, wrap64]
theorem s_close : unp (untl (srt (asOf sb1 sb1.n)) 0) [] = sF := by
  rw [s_now, s_untl (by decide)]
  rfl
theorem does_first {c : Int} {F : Fig} {cs' : List Cl} (h : DoesC sb1 [] 0 c F cs') : c = 0 ∧ F = sF ∧ cs' = [⟨0, 1, sF⟩] := by
  rcases h with ⟨h, _⟩ | ⟨_, h, _⟩ | ⟨_, _, h, _⟩ | ⟨_, _, _, h1, h2, h3⟩
  · omega
  · cases h
  · exact absurd h (by decide)
  · rw [s_close] at h2
    subst h2
    exact ⟨h1, rfl, h3⟩
theorem does_second {c : Int} {F : Fig} {cs' : List Cl} (h : DoesC sb1 [⟨0, 1, sF⟩] 0 c F cs') : c = 10 ∧ F = fig0 ∧ cs' = [⟨0, 1, sF⟩] := by
  rcases h with ⟨h, _⟩ | ⟨_, _, h1, h2, h3⟩ | ⟨_, h, _⟩ | ⟨_, h, _⟩
  · omega
  · exact ⟨h1, h2, h3⟩
  · exact absurd h (by decide)
  · exact absurd h (by decide)
set_option maxRecDepth 20000 in
set_option maxHeartbeats 8000000 in
theorem shut_any (w : World) (hg : ErrType w) (ht : LenTab w) : Calls Tryz.prog 23 #[] w fun e w' => e = .returned (.bool true) ∧ Below w.heap.size w w' := by
  obtain ⟨W0, hW0⟩ : ∃ W, W = (w.alloc (.cells #[.slice none 0 0, .int .i64 0, .int .i64 0] 27)).alloc (.cells #[.slice none 0 0] 30) := ⟨_, rfl⟩
  have H0 : BothAt W0 w.heap.size w.heap.size (w.heap.size + 1) (.slice none 0 0) (.slice none 0 0) bk0 [] := by
    have hp := per_new (w.alloc (.cells #[.slice none 0 0, .int .i64 0, .int .i64 0] 27)) w.heap.size (by simp)
    rw [hW0]
    refine ⟨(book_new w w.heap.size (Nat.le_refl _)).below ((Below.refl _ _).alloc (Nat.le_refl _) _), by simpa using hp, by omega, by simp [Value.ownBlock], by simp [Value.ownBlock], by simp [Value.ownBlock]⟩
  have B0 : Below w.heap.size w W0 := by rw [hW0]; exact ((Below.refl _ _).alloc (Nat.le_refl _) _).alloc (by simp) _
  have hp := post_yes H0.bk (by decide) (by decide) (by decide) (by decide) (se 0) (se_w 0 (by decide)) (se_rt 0) (by decide)
  rw [sb1_is] at hp
  unfold evV se at hp
  simp only at hp
  have HG : Hid (ErrType w) := hg
  have HT : Hid (LenTab w) := ht
  have HW0 : Hid (W0 = _) := hW0
  clear hW0 hg ht
  go_enter Tryz.func23, Tryz.ntmps23
  go_wp2_with fail
  rw [← HW0.out]
  refine hp.mono ?_
  rintro e w1 ⟨rfl, sv1, K1, T1, F1⟩
  have H1 := H0.book K1 T1 F1
  have B1 := T1.below H0.bk B0 B0.size
  clear hp K1 T1 F1 HW0 H0
  unfold errV
  rw [if_pos rfl]
  have hb1 : bk0.g + 1 = 1 := rfl
  rw [hb1]
  clear hb1
  have hc := close_any H1.pr H1.bk sb1_inv (HT.out.below B1) (by decide) 0
  go_wp2_with fail
  refine hc.mono ?_
  rintro e w2 ⟨F, c, cs', cv2, rfl, hd, P2, T2, F2⟩
  obtain ⟨rfl, rfl, rfl⟩ := does_first hd
  have H2 := H1.closes P2 T2 F2
  have B2 := per_below T2 H1.pr B1 B1.size
  clear hc hd P2 T2 F2 H1 B1
  unfold errV figV sF
  rw [if_pos rfl]
  simp only
  obtain ⟨W3, hW3⟩ : ∃ W, W = w2.alloc (.cells #[.int .i64 20, .int .i64 0, .int .i64 0, .int .i64 0, .int .i64 0] 38) := ⟨_, rfl⟩
  have b3 : Below w2.heap.size w2 W3 := by rw [hW3]; exact (Below.refl _ _).alloc (Nat.le_refl _) _
  have H3 := H2.below b3
  have B3 : Below w.heap.size w W3 := B2.trans (b3.mono B2.size)
  have hl1 := late_any H3.pr (HT.out.below B3) (by decide) 30 (by decide) (by decide)
  rw [dK_jan (n := 30) (by decide) (by decide)] at hl1
  rw [show cov [(⟨0, 1, sF⟩ : Cl)] ((0 : Nat) : Int) = true by decide] at hl1
  have HW3 : Hid (W3 = _) := hW3
  clear hW3 b3 H2 B2
  go_wp2_with fail
  rw [← HW3.out]
  refine hl1.mono ?_
  rintro e w4 ⟨rfl, b4⟩
  have H4 := H3.below b4
  have B4 : Below w.heap.size w w4 := B3.trans (b4.mono B3.size)
  have hl2 := late_any H4.pr (HT.out.below B4) (by decide) 31 (by decide) (by decide)
  rw [dK_31] at hl2
  rw [show cov [(⟨0, 1, sF⟩ : Cl)] ((1 : Nat) : Int) = false by decide] at hl2
  clear hl1 H3 B3 b4 HW3
  go_wp2_with fail
  refine hl2.mono ?_
  rintro e w5 ⟨rfl, b5⟩
  have H5 := H4.below b5
  have B5 : Below w.heap.size w w5 := B4.trans (b5.mono B4.size)
  have hc := close_any H5.pr H5.bk sb1_inv (HT.out.below B5) (by decide) 0
  clear hl2 H4 B4 b5
  go_wp2_with fail
  refine hc.mono ?_
  rintro e w6 ⟨F, c, cs', cv6, rfl, hd, P6, T6, F6⟩
  obtain ⟨rfl, rfl, rfl⟩ := does_second hd
  have H6 := H5.closes P6 T6 F6
  have B6 := per_below T6 H5.pr B5 B5.size
  have htl := tell_errno 10 w6 (HG.out.below B6)
  clear hc hd P6 T6 F6 H5 B5
  unfold errV figV fig0
  rw [if_neg (by decide)]
  simp only
  go_wp2_with fail
  refine htl.mono ?_
  rintro e w7 ⟨rfl, b7⟩
  have H7 := H6.below b7
  have B7 : Below w.heap.size w w7 := B6.trans (b7.mono B6.size)
  have hop := open_any H7.pr H7.bk sb1_inv (HT.out.below B7) (by decide)
  rw [s_open] at hop
  unfold figV fig0 at hop
  simp only at hop
  clear htl H6 B6 b7
  go_wp2_with fail
  refine hop.mono ?_
  rintro e w8 ⟨rfl, b8⟩
  have B8 : Below w.heap.size w w8 := B7.trans (b8.mono B7.size)
  clear hop H7 B7 b8
  go_wp2
  go_ret
  exact ⟨rfl, B8⟩
end Go.Proofs.YtmldaiofghpfdaaGreatDoor
