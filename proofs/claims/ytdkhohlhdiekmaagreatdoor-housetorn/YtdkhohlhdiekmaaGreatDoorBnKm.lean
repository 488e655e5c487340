/- An event and its text: a nail. No walk (split off EventFact). Three lines, and what they tell: the mathematics of tallymankeep.kept. No walk. -/
import Derived.Test.YtdkhohlhdiekmaaGreatDoorBnEv
import Derived.Test.YtdkhohlhdiekmaaGreatDoorHsM
namespace Go.Proofs.YtdkhohlhdiekmaaGreatDoor
open Go.RowKit
theorem dK_1 : dK 1 = 0 ∧ dD 1 = 2 := of_isDay (ofDay_some (show ofDay 1900 1 2 = some 1 by decide)).2.2.2.2.2.2.2.2.2
theorem DT_1 : bts (DT 1) = [49, 57, 48, 48, 45, 48, 49, 45, 48, 50] := by
  unfold DT; rw [dK_1.1, dK_1.2]; decide
theorem amt_50 : byt (amt 50) = [48, 46, 53, 48] := by
  unfold amt amtSize
  have e : wdN (Int.natAbs 50 / 100) = 1 := wdN_small _ (by decide)
  rw [e]; decide
theorem itoa_3 : Lib.itoa 3 = [51] := by
  rw [itoa_pos 3 (by omega), show (3 : Int).toNat = 3 from rfl, dec_one 3 (by omega)]; rfl
def evNail : Ev := ⟨0, ⟨#[110, 97, 105, 108]⟩, 1, 3, 50, 0, 1⟩
def txNail : ByteArray := ⟨#[49, 57, 48, 48, 45, 48, 49, 45, 48, 50, 32, 105, 110, 32, 110, 97, 105, 108, 32, 51, 32, 97, 116, 32, 48, 46, 53, 48]⟩
theorem nail_rt : Rt evNail := by
  refine ⟨⟨by decide, ?_, ?_⟩, by decide, .inl (by decide)⟩
  · intro c hc
    have : c = 110 := by
      have h : some (110 : UInt8) = some c := hc
      cases h; rfl
    subst this; unfold isLet; decide
  · intro c hc
    have h : c ∈ ([110, 97, 105, 108] : List UInt8) := hc
    simp only [List.mem_cons, List.not_mem_nil, or_false] at h
    left
    rcases h with rfl | rfl | rfl | rfl <;> (unfold isLet; decide)
theorem nail_tx : ET evNail = txNail.data.toList := by
  have e : ET evNail = bts (DT 1) ++ 32 :: ([105, 110] ++ 32 :: ([110, 97, 105, 108] ++ 32 :: (Lib.itoa 3 ++ 32 :: ([97, 116] ++ 32 :: byt (amt 50))))) := rfl
  rw [e, DT_1, amt_50, itoa_3]; rfl
theorem nail_w : EvW evNail := ⟨by decide, by decide, by decide, by decide, by decide, by decide, by decide⟩
end Go.Proofs.YtdkhohlhdiekmaaGreatDoor
namespace Go.Proofs.YtdkhohlhdiekmaaGreatDoor
open Go.RowKit
theorem dK_jan0 {n : Int} (h0 : 0 ≤ n) (h1 : n ≤ 30) : dK n = 0 := (of_isDay (n := n) (k := 0) (d := n + 1) ⟨by omega, by rw [show klen 0 = 31 by decide]; omega, by simp [kfd]⟩).1
/-- post 1900-01-02 in nail 3 at 0.50 -/
def k1 : List UInt8 := [112, 111, 115, 116, 32, 49, 57, 48, 48, 45, 48, 49, 45, 48, 50, 32, 105, 110, 32, 110, 97, 105, 108, 32, 51, 32, 97, 116, 32, 48, 46, 53, 48]
/-- close 1900-01 -/
def k2 : List UInt8 := [99, 108, 111, 115, 101, 32, 49, 57, 48, 48, 45, 48, 49]
/-- correct 1 1900-01-03 in nail 4 at 0.50 -/
def k3 : List UInt8 := [99, 111, 114, 114, 101, 99, 116, 32, 49, 32, 49, 57, 48, 48, 45, 48, 49, 45, 48, 51, 32, 105, 110, 32, 110, 97, 105, 108, 32, 52, 32, 97, 116, 32, 48, 46, 53, 48]
def evN (id q d : Int) : Ev := ⟨id, ⟨#[110, 97, 105, 108]⟩, 1, q, 50, 0, d⟩
theorem evN_rt (id : Int) {q d : Int} (hq : 1 ≤ q ∧ q ≤ 100000) (hd : 0 ≤ d ∧ d ≤ 99999) : Rt (evN id q d) := ⟨nail_rt.1, hd, .inl ⟨rfl, hq, (by show (0 : Int) ≤ 50 ∧ (50 : Int) ≤ 1000000; decide), rfl⟩⟩
theorem k1_cut : cutL k1 = (wPost, txNail.data.toList) := by decide
theorem k2_cut : cutL k2 = (wClose, [49, 57, 48, 48, 45, 48, 49]) := by decide
def tx3 : List UInt8 := [49, 57, 48, 48, 45, 48, 49, 45, 48, 51, 32, 105, 110, 32, 110, 97, 105, 108, 32, 52, 32, 97, 116, 32, 48, 46, 53, 48]
theorem k3_cut : cutL k3 = (wCorr, 49 :: 32 :: tx3) := by decide
theorem k3_cut2 : cutL (49 :: 32 :: tx3) = ([49], tx3) := by decide
theorem dK_2 : dK 2 = 0 ∧ dD 2 = 3 := of_isDay (ofDay_some (show ofDay 1900 1 3 = some 2 by decide)).2.2.2.2.2.2.2.2.2
theorem dK_0 : dK 0 = 0 ∧ dD 0 = 1 := of_isDay (ofDay_some (show ofDay 1900 1 1 = some 0 by decide)).2.2.2.2.2.2.2.2.2
theorem DT_2 : bts (DT 2) = [49, 57, 48, 48, 45, 48, 49, 45, 48, 51] := by
  unfold DT; rw [dK_2.1, dK_2.2]; decide
theorem DT_0 : bts (DT 0) = [49, 57, 48, 48, 45, 48, 49, 45, 48, 49] := by
  unfold DT; rw [dK_0.1, dK_0.2]; decide
theorem itoa_4 : Lib.itoa 4 = [52] := by
  rw [itoa_pos 4 (by omega), show (4 : Int).toNat = 4 from rfl, dec_one 4 (by omega)]; rfl
theorem itoa_1 : Lib.itoa 1 = [49] := by
  rw [itoa_pos 1 (by omega), show (1 : Int).toNat = 1 from rfl, dec_one 1 (by omega)]; rfl
theorem ev1 : evOf txNail.data.toList = some (evN 0 3 1) := evOf_is ⟨nail_rt, rfl, nail_tx⟩
theorem ev3 : evOf tx3 = some (evN 0 4 2) := by
  refine evOf_is ⟨evN_rt 0 (by decide) (by decide), rfl, ?_⟩
  have e : ET (evN 0 4 2) = bts (DT 2) ++ 32 :: ([105, 110] ++ 32 :: ([110, 97, 105, 108] ++ 32 :: (Lib.itoa 4 ++ 32 :: ([97, 116] ++ 32 :: byt (amt 50))))) := rfl
  rw [e, DT_2, amt_50, itoa_4]; rfl
theorem num1 : numO [49] = some 1 := by
  have e : Lib.atoiAll [49] = .ok 1 := by rw [← itoa_1]; exact atoi_itoa 1 (by decide) (by decide)
  unfold numO
  rw [e]
  simp [itoa_1]
theorem day0 : dparsed ([49, 57, 48, 48, 45, 48, 49] ++ [45, 48, 49]) = some 0 := by
  have e : ([49, 57, 48, 48, 45, 48, 49] ++ [45, 48, 49] : List UInt8) = bts (DT 0) := by rw [DT_0]; rfl
  rw [e]; exact dparsed_DT (by omega) (by omega)
def kb1 : Bk := ⟨[⟨evN 1 3 1, 1, 0⟩], 1, 1⟩
def kF : Fig := ⟨150, 0, 0, 0, 0⟩
theorem kb1_is : postB bk0 (evN 0 3 1) = kb1 := rfl
theorem do1 : doH hs0 k1 = ⟨tPosted ++ [49], 0, ⟨kb1, [], [k1]⟩⟩ := by
  have hd : deedD hs0.bk hs0.cs (cutL k1).1 (cutL k1).2 = ⟨tPosted ++ [49], 0, kb1, []⟩ := by
    rw [k1_cut]
    unfold deedD
    rw [if_pos rfl]
    unfold postD
    simp only [ev1]
    rw [if_pos (by simp [hs0, bk0])]
    have e1 : Lib.itoa (hs0.bk.g + 1) = [49] := itoa_1
    have e2 : lateT hs0.cs (evN 0 3 1) = [] := rfl
    rw [e1, e2, List.append_nil]
    rfl
  unfold doH
  rw [if_neg (by decide), hd]
  rfl
theorem k_ordd : ordd [evN 1 3 1] = [evN 1 3 1] := by
  unfold ordd
  rw [filter_rt (fun e he => by rw [List.mem_singleton] at he; rw [he]; exact evN_rt 1 (by decide) (by decide))]
  exact List.perm_singleton.1 (stl_perm [evN 1 3 1])
theorem kF_ok : kF.ok := by constructor <;> (unfold I64 kF; simp)
theorem k_line : figOf 1 (doE stk0 (evN 1 3 1)).2 = kF := by
  have e : (doE stk0 (evN 1 3 1)).2 = ⟨1, 150, 0, 0, false⟩ := by simp [doE, evN]
  rw [e]
  simp [figOf, kF]
theorem k_mons : mons [evN 1 3 1] = [⟨0, kF⟩] := by
  unfold mons
  rw [k_ordd]
  show [(⟨(dK 1 : Int), fig0.plus (figOf 1 (doE stk0 (evN 1 3 1)).2)⟩ : Mon)] = _
  rw [dK_jan0 (by decide) (by decide), k_line, fig0_plus kF_ok]
  rfl
theorem k_clF : clF kb1 [] 0 = kF := by
  unfold clF
  rw [show asOf kb1 kb1.n = [evN 1 3 1] from rfl, srt_one]
  unfold untl
  rw [k_mons]
  show (if (0 : Int) ≤ 0 then fig0.plus kF else fig0) = kF
  rw [if_pos (by decide), fig0_plus kF_ok]
def kc : List Cl := [⟨0, 1, kF⟩]
theorem do2 : doH ⟨kb1, [], [k1]⟩ k2 = ⟨tClosed ++ [49], 0, ⟨kb1, kc, [k1, k2]⟩⟩ := by
  have hd : deedD kb1 [] (cutL k2).1 (cutL k2).2 = ⟨tClosed ++ [49], 0, kb1, kc⟩ := by
    rw [k2_cut]
    unfold deedD
    rw [if_neg (by decide), if_neg (by decide), if_neg (by decide), if_pos rfl]
    unfold closeD
    simp only [day0]
    rw [if_neg (by decide), if_neg (by decide), dK_0.1]
    have e1 : clF kb1 [] ((0 : Nat) : Int) = kF := k_clF
    rw [e1]
    have e2 : Lib.itoa ((postL kF).length : Nat) = [49] := by
      have : (postL kF).length = 1 := by decide
      rw [this]
      exact itoa_1
    rw [e2]
    rfl
  unfold doH
  rw [if_neg (by decide)]
  simp only [hd]
  rfl
theorem do3 : (doH ⟨kb1, kc, [k1, k2]⟩ k3).told = tCorrected ++ tLate ∧ (doH ⟨kb1, kc, [k1, k2]⟩ k3).c = 0 := by
  have hk : kIx kb1.vs 1 = 0 := by decide
  have hd : deedD kb1 kc (cutL k3).1 (cutL k3).2 = ⟨tCorrected ++ tLate, 0, corrB kb1 0 1 (evN 0 4 2), kc⟩ := by
    rw [k3_cut]
    unfold deedD
    rw [if_neg (by decide), if_pos rfl]
    unfold corrD
    rw [k3_cut2]
    simp only [num1, ev3]
    rw [hk, if_neg (by decide), if_pos (by decide)]
    have e2 : lateT kc (evN 0 4 2) = tLate := by
      unfold lateT
      rw [show (evN 0 4 2).day = 2 from rfl, dK_2.1]
      rfl
    rw [e2]
    rfl
  unfold doH
  rw [if_neg (by decide)]
  simp only [hd]
  exact ⟨rfl, rfl⟩
theorem k_good : GoodL [k1, k2] ∧ runH [k1, k2] = ⟨kb1, kc, [k1, k2]⟩ := by
  have r1 : runH [k1] = ⟨kb1, [], [k1]⟩ := by
    show (doH hs0 k1).h = _
    rw [do1]
  have g1 : GoodL [k1] := good_snoc good_nil (by show (doH hs0 k1).c = 0; rw [do1])
  refine ⟨good_snoc (ls := [k1]) g1 (by rw [r1, do2]), ?_⟩
  have := run_snoc [k1] k2
  rw [r1, do2] at this
  exact this
end Go.Proofs.YtdkhohlhdiekmaaGreatDoor
