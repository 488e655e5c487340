/- The walk of (*house.House).deed: which deed a word means. The walk of (*house.House).Do. -/
import Derived.Test.YtdkhohlhdiekmaaGreatDoorBnEv
import Derived.Test.YtdkhohlhdiekmaaGreatDoorBnJr
import Derived.FnLit
import Derived.Test.YtdkhohlhdiekmaaGreatDoorBnHc
import Derived.Test.YtdkhohlhdiekmaaGreatDoorBnHk
namespace Go.Proofs.YtdkhohlhdiekmaaGreatDoor
open Go.RowKit
def deedF (l : List UInt8) : Nat := if l = wPost then 61 else if l = wCorr then 62 else if l = wVoid then 63 else if l = wClose then 64 else 65
theorem txt_is (l m : List UInt8) : ((ba l).toList == m) = decide (l = m) := by
  rw [ByteArray.toList_eq, ba_data, Bool.eq_iff_iff]; simp
set_option maxHeartbeats 2000000 in
theorem deed_any (ph : Nat) (l : List UInt8) (w : World) :
    Calls Tryz.prog 25 #[.pointer (some ⟨ph, 0, none⟩), .string (ba l)] w fun e w' => e = .returned (.func (.func (deedF l)) #[.pointer (some ⟨ph, 0, none⟩)] #[]) ∧ w' = w := by
  unfold deedF
  have e1 := txt_is l wPost
  have e2 := txt_is l wCorr
  have e3 := txt_is l wVoid
  have e4 := txt_is l wClose
  obtain ⟨t, ht⟩ : ∃ t, t = ba l := ⟨_, rfl⟩
  rw [← ht] at e1 e2 e3 e4 ⊢
  clear ht
  by_cases h1 : l = wPost
  · rw [if_pos h1]
    rw [decide_eq_true h1] at e1
    unfold wPost at e1
    clear h1 e2 e3 e4
    go_enter Tryz.func25, Tryz.ntmps25
    go_wp2
    go_ret
    exact ⟨rfl, rfl⟩
  rw [if_neg h1]
  rw [decide_eq_false h1] at e1
  unfold wPost at e1
  by_cases h2 : l = wCorr
  · rw [if_pos h2]
    rw [decide_eq_true h2] at e2
    unfold wCorr at e2
    clear h2 e3 e4
    go_enter Tryz.func25, Tryz.ntmps25
    go_wp2
    go_ret
    exact ⟨rfl, rfl⟩
  rw [if_neg h2]
  rw [decide_eq_false h2] at e2
  unfold wCorr at e2
  by_cases h3 : l = wVoid
  · rw [if_pos h3]
    rw [decide_eq_true h3] at e3
    unfold wVoid at e3
    clear h3 e4
    go_enter Tryz.func25, Tryz.ntmps25
    go_wp2
    go_ret
    exact ⟨rfl, rfl⟩
  rw [if_neg h3]
  rw [decide_eq_false h3] at e3
  unfold wVoid at e3
  by_cases h4 : l = wClose
  · rw [if_pos h4]
    rw [decide_eq_true h4] at e4
    unfold wClose at e4
    clear h4
    go_enter Tryz.func25, Tryz.ntmps25
    go_wp2
    go_ret
    exact ⟨rfl, rfl⟩
  rw [if_neg h4]
  rw [decide_eq_false h4] at e4
  unfold wClose at e4
  clear h1 h2 h3 h4
  go_enter Tryz.func25, Tryz.ntmps25
  go_wp2
  go_ret
  exact ⟨rfl, rfl⟩
end Go.Proofs.YtdkhohlhdiekmaaGreatDoor
namespace Go.Proofs.YtdkhohlhdiekmaaGreatDoor
open Go.RowKit
theorem frames_bdH : ∀ (l : List (List UInt8)), (∀ t ∈ l, t.length ≤ 200) → totL l ≤ 216 * l.length
  | [], _ => Nat.le_refl _
  | t :: l, h => by
    have h1 := h t (List.mem_cons_self ..)
    have h2 := frames_bdH l (fun x hx => h x (List.mem_cons_of_mem _ hx))
    rw [tot_cons, List.length_cons]; omega
theorem deedF_enters (l : List UInt8) : ∀ args w, (callFunc (deedF l) args).run Tryz.prog w = .ok (.enter (deedF l) args) w := by
  unfold deedF
  split
  · exact enters_of Tryz.func61 (by kernel_rfl) rfl
  split
  · exact enters_of Tryz.func62 (by kernel_rfl) rfl
  split
  · exact enters_of Tryz.func63 (by kernel_rfl) rfl
  split
  · exact enters_of Tryz.func64 (by kernel_rfl) rfl
  · exact enters_of Tryz.func65 (by kernel_rfl) rfl
theorem deed_does {w : World} {B ph : Nat} {sv cv : Value} {h : Hs} (a : HsAt w B ph sv cv h) (ho : HsOk h) (hn : h.ls.length ≤ 100000) (hg : Ground B w) (word rest : List UInt8) (hs : rest.length ≤ 1000) :
    Calls Tryz.prog (deedF word) #[.pointer (some ⟨ph, 0, none⟩), .string (ba rest)] w (DeedP w B ph sv cv h (deedD h.bk h.cs word rest)) := by
  have hz : (ba rest).size ≤ 1000 := by rw [ba_size]; exact hs
  have e := ba_data rest
  unfold deedF deedD
  split
  · have := post_deed a ho hn hg (ba rest) hz
    rw [e] at this; exact this
  split
  · have := corr_deed a ho hn hg (ba rest) hz
    rw [e] at this; exact this
  split
  · have := void_deed a ho hn hg (ba rest) hz
    rw [e] at this; exact this
  split
  · have := close_deed a ho hn hg (ba rest) hz
    rw [e] at this; exact this
  · exact refuse_deed a (ba rest)
/-- What Do answers, and leaves. -/
def DoP (w : World) (B ph : Nat) (sv cv : Value) (R : Rs) (r : Ending) (w' : World) : Prop :=
  ∃ sv' cv', r = .returned (.tuple #[.string (ba R.told), errV R.c]) ∧ HsAt w' B ph sv' cv' R.h ∧ HTurn w w' ph sv cv sv' cv'
set_option maxRecDepth 20000 in
set_option maxHeartbeats 8000000 in
theorem do_any {w : World} {B ph : Nat} {sv cv : Value} {h : Hs} (a : HsAt w B ph sv cv h) (ho : HsOk h) (hn : h.ls.length ≤ 10000) (hg : Ground B w) (l : List UInt8) (hs : l.length ≤ 1000) :
    Calls Tryz.prog 8 #[.pointer (some ⟨ph, 0, none⟩), .string (ba l)] w (DoP w B ph sv cv (doH h l)) := by
  have hz : (ba l).size = l.length := ba_size l
  have cn := a.cn
  by_cases h2 : 200 < l.length
  · have HD : doH h l = ⟨[], 3, h⟩ := by unfold doH; rw [if_pos h2]
    rw [HD]
    have hF := jframe_long (h.ls.length : Nat) (ba l) w (by rw [hz]; unfold maxLen; omega) (by omega)
    have HF : Hid (∀ w', Below w.heap.size w w' → DoP w B ph sv cv ⟨[], 3, h⟩ (.returned (.tuple #[.string ⟨#[]⟩, errV 3])) w') := fun w' hb => ⟨sv, cv, rfl, a.below hb, HTurn.of_below hb⟩
    rw [errV_ne (by decide)] at HF
    clear a ho hg HD
    go_enter Tryz.func8, Tryz.ntmps8
    go_wp2_with fail
    refine hF.mono ?_
    rintro x w1 ⟨rfl, hb1⟩
    have hR := HF.out _ hb1
    clear hF HF
    go_wp2
    go_ret2
    exact hR
  · have hF := jframe_ok h.ls.length (ba l) w (by omega) (by omega)
    rw [ba_data] at hF
    have HA := hidN a
    have HO := hidN ho
    have HG := hidN hg
    have hcut := cut_len l
    have HC := fun (W : World) (hW : Ground B W) => hidN (cut_any (ba l) W hW.glob.ev.num (by omega))
    rw [ba_data] at HC
    have HX : Hid (ba (framesL 0 h.ls) ++ ba (frameL h.ls.length l) = ba (framesL 0 (h.ls ++ [l]))) := by
      show _ = _
      rw [ba_app, frames_snoc, Nat.zero_add]
    have hz1 : (ba (framesL 0 h.ls)).size ≤ 2160000 := by
      rw [ba_size, frames_len]
      have := frames_bdH h.ls ho.ls
      omega
    have hz2 : (ba (frameL h.ls.length l)).size = 16 + l.length := by rw [ba_size, frame_len]
    obtain ⟨D, hDe⟩ : ∃ D, D = deedD h.bk h.cs (cutL l).1 (cutL l).2 := ⟨_, rfl⟩
    have HD : Hid (doH h l = if D.c = 0 then ⟨D.told, 0, D.bk, D.cs, h.ls ++ [l]⟩ else ⟨[], D.c, h⟩) := by
      show _ = _
      rw [hDe]
      unfold doH
      rw [if_neg h2]
    have HE : Hid (D.c ≠ 0 → D.bk = h.bk ∧ D.cs = h.cs) := by
      rw [hDe]
      exact deed_err
    have HDD := fun (W : World) (aW : HsAt W B ph sv cv h) (hW : Ground B W) => hidN (deed_does aW ho (by omega) hW (cutL l).1 (cutL l).2 (by omega))
    rw [← hDe] at HDD
    have hdf := fun W => deed_any ph (cutL l).1 W
    have hen := deedF_enters (cutL l).1
    obtain ⟨fd, hfd⟩ : ∃ fd, fd = deedF (cutL l).1 := ⟨_, rfl⟩
    rw [← hfd] at HDD hdf hen
    obtain ⟨word, hword⟩ : ∃ word, word = (cutL l).1 := ⟨_, rfl⟩
    rw [← hword] at HC hdf
    obtain ⟨rest, hrest⟩ : ∃ rest, rest = (cutL l).2 := ⟨_, rfl⟩
    rw [← hrest] at HC HDD
    clear a ho hg hword hrest hDe hfd hcut
    go_enter Tryz.func8, Tryz.ntmps8
    go_wp2_with fail
    refine hF.mono ?_
    rintro x w1 ⟨rfl, hb1⟩
    have hC := (HC w1 (HG.out.below hb1)).out
    clear hF HC cn
    go_wp2_with fail
    refine hC.mono ?_
    rintro x w2 ⟨⟨fb, rfl⟩, nd, hw2⟩
    have hb2 : Below w.heap.size w w2 := by rw [hw2]; exact below_drewN hb1 _
    have hdf2 := hdf w2
    have hA2 := HA.out.below hb2
    have hDD := (HDD w2 hA2 (HG.out.below hb2)).out
    clear hC hw2 hdf HDD hA2
    go_wp2_with fail
    refine hdf2.mono ?_
    rintro x w3 ⟨rfl, hw3⟩
    subst w3
    clear hdf2
    go_wp2_with fail
    refine hDD.mono ?_
    rintro x w4 ⟨sv', cv', rfl, hA4, hT4⟩
    have hT4' : HTurn w w4 ph sv cv sv' cv' := (HTurn.of_below hb2).trans hT4
    clear hDD hT4
    by_cases hc : D.c = 0
    · have HR : Hid (∀ w', HsAt w' B ph sv' cv' ⟨D.bk, D.cs, h.ls ++ [l]⟩ → HTurn w4 w' ph sv' cv' sv' cv' → DoP w B ph sv cv (doH h l) (.returned (.tuple #[.string (ba D.told), .nilIface])) w') := fun w' a' t' => by
        rw [HD.out, if_pos hc]
        exact ⟨sv', cv', rfl, a', hT4'.trans t'⟩
      have hj := hA4.jot l
      have HJ := hidN (HR.out _ hj.1 hj.2)
      have cj := hA4.cj
      have fj := hA4.fj
      have cn := hA4.cn
      have fn := hA4.fn
      simp only at cj cn
      rw [hc, show errV 0 = Value.nilIface from rfl]
      have e1 := HX.out
      clear hj HR hA4 hT4' hc HD HE HX
      go_wp2
      go_ret2
      exact HJ.out
    · have HR : Hid (DoP w B ph sv cv (doH h l) (.returned (.tuple #[.string ⟨#[]⟩, errV D.c])) w4) := by
        show DoP _ _ _ _ _ _ _ _
        obtain ⟨e1, e2⟩ := HE.out hc
        rw [HD.out, if_neg hc]
        rw [e1, e2] at hA4
        exact ⟨sv', cv', rfl, hA4, hT4'⟩
      rw [errV_ne hc] at HR ⊢
      clear hA4 hT4' HD HE HX
      go_wp2
      go_ret2
      exact HR.out
end Go.Proofs.YtdkhohlhdiekmaaGreatDoor
