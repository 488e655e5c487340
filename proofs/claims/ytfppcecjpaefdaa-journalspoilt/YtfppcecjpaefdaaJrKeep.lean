/- The walks of tallymankeep.frames and tallymankeep.framed. -/
import Derived.Test.YtfppcecjpaefdaaStrMem
namespace Go.Proofs.Ytfppcecjpaefdaa
open Go.RowKit
/-- What frames answers. -/
def FramesP (l : List (List UInt8)) (w : World) (e : Ending) (w' : World) : Prop :=
  (e = .returned (.tuple #[.string (ba []), .bool false]) ∨ (l.length ≤ 20 ∧ (∀ t ∈ l, t.length ≤ 200) ∧ e = .returned (.tuple #[.string (ba (framesL 0 l)), .bool true]))) ∧ Below w.heap.size w w'
theorem frames_bd : ∀ (l : List (List UInt8)), (∀ t ∈ l, t.length ≤ 200) → totL l ≤ 216 * l.length
  | [], _ => Nat.le_refl _
  | t :: l, h => by
    have h1 := h t (List.mem_cons_self ..)
    have h2 := frames_bd l (fun x hx => h x (List.mem_cons_of_mem _ hx))
    rw [tot_cons, List.length_cons]; omega
set_option maxHeartbeats 4000000 in
theorem frames_any (l : List (List UInt8)) (ao : Option Addr) (cap : Nat) (w : World) (hev : ∀ t ∈ l, t.length ≤ maxLen) (hat : StrsC w ao l) (hmx : l.length ≤ maxLen) :
    Calls Try.prog 5 #[.slice ao l.length cap] w (FramesP l w) := by
  unfold maxLen at hmx
  have HC : Hid (StrsC w ao l) := hat
  have HV : Hid (∀ t ∈ l, t.length ≤ maxLen) := hev
  clear hat hev
  by_cases h20 : l.length ≤ 20
  · go_enter Try.func5, Try.ntmps5
    go_wp2
    go_loopw [4, 5] (fun s i wr => ∃ k : Nat, k ≤ l.length ∧ i = .int .i64 k ∧ s = .string (ba (framesL 0 (l.take k))) ∧ Hid (∀ t ∈ l.take k, t.length ≤ 200) ∧ Below w.heap.size w wr) (fun _ i _ => l.length - (intOf i).toNat)
    case atStart => exact ⟨0, Nat.zero_le _, rfl, rfl, (fun t ht => by simp at ht), Below.refl _ _⟩
    case round =>
      obtain ⟨k, hk, rfl, rfl, HT, hb⟩ := hrel
      by_cases hlt : k < l.length
      · obtain ⟨b, o, e1, lt1, c1⟩ := HC.out.below hb (by omega)
        subst e1
        have d1 := c1 k hlt
        unfold encS at d1
        obtain ⟨t, ht⟩ : ∃ t, t = l[k] := ⟨_, rfl⟩
        rw [← ht] at d1
        have hmem : t ∈ l := by rw [ht]; exact List.getElem_mem hlt
        have htl := HV.out t hmem
        unfold maxLen at htl
        have HTK : Hid (l.take (k + 1) = l.take k ++ [t]) := by show _ = _; rw [List.take_succ_eq_append_getElem hlt, ht]
        have hz : (ba t).size = t.length := ba_size t
        clear c1 ht HC
        by_cases h2 : t.length ≤ 200
        · have HF := fun w => jframe_ok k (ba t) w (by omega) (by omega)
          rw [ba_data] at HF
          have HX : Hid (ba (framesL 0 (l.take k)) ++ ba (frameL k t) = ba (framesL 0 (l.take (k + 1)))) := by
            show _ = _
            rw [ba_app, HTK.out, frames_snoc, List.length_take, Nat.zero_add, Nat.min_eq_left hk]
          have hz1 : (ba (framesL 0 (l.take k))).size ≤ 4320 := by
            rw [ba_size, frames_len]
            have := frames_bd _ HT.out
            rw [List.length_take] at this
            omega
          have hz2 : (ba (frameL k t)).size = 16 + t.length := by rw [ba_size, frame_len]
          go_wp2_with fail
          refine (HF _).mono ?_
          rintro e w1 ⟨rfl, hb1⟩
          have e1 := HX.out
          go_wp2
          go_roundw
          case rel =>
            refine ⟨k + 1, by omega, by go_num, rfl, ?_, hb.trans (hb1.mono hb.size)⟩
            intro x hx
            rw [HTK.out] at hx
            rcases List.mem_append.1 hx with hx | hx
            · exact HT.out x hx
            · rw [List.mem_singleton] at hx; rw [hx]; exact h2
          case measure => simp [intOf]; omega
        · have HF := fun w => jframe_long k (ba t) w (by unfold maxLen; omega) (by omega)
          go_wp2_with fail
          refine (HF _).mono ?_
          rintro e w1 ⟨rfl, hb1⟩
          go_wp2
          go_ret2
          exact ⟨Or.inl rfl, hb.trans (hb1.mono hb.size)⟩
      · obtain rfl : k = l.length := by omega
        have ht := HT.out
        rw [List.take_length] at ht ⊢
        have HD : Hid (∀ t ∈ l, t.length ≤ 200) := ht
        clear ht
        go_wp2
        go_ret2
        exact ⟨Or.inr ⟨h20, HD.out, rfl⟩, hb⟩
  · go_enter Try.func5, Try.ntmps5
    go_wp2
    go_ret2
    exact ⟨Or.inl rfl, Below.refl _ _⟩
theorem sum_known : sumL [49, 50, 51, 52, 53, 54, 55, 56, 57] = 3421780262 := by decide +kernel
theorem rd_known : Rd 0 (frameL 0 [97, 98] ++ [120]) [[97, 98]] := by
  refine Rd.some ⟨by decide, by decide, List.prefix_append ..⟩ (Rd.none (not_heads_short ?_))
  rw [List.length_drop, List.length_append, frame_len]
  decide
set_option maxHeartbeats 4000000 in
theorem framed_any (w : World) : Calls Try.prog 6 #[] w fun e w' => e = .returned (.bool true) ∧ Below w.heap.size w w' := by
  have HF := fun w => jframe_ok 0 (ba [97, 98]) w (by omega) (by rw [ba_size]; decide)
  rw [ba_data] at HF
  have hz : (ba (frameL 0 [97, 98])).size = 18 := by rw [ba_size, frame_len]; rfl
  have HS := fun w => jsum_any (ba [49, 50, 51, 52, 53, 54, 55, 56, 57]) w (by rw [ba_size]; decide)
  rw [ba_data, sum_known] at HS
  have HX : Hid (ba (frameL 0 [97, 98]) ++ ⟨#[120]⟩ = ba (frameL 0 [97, 98] ++ [120])) := ba_app _ [120]
  have HR := fun w => jread_any (ba (frameL 0 [97, 98] ++ [120])) w (by rw [ba_size, List.length_append, frame_len]; decide)
  rw [ba_data] at HR
  go_enter Try.func6, Try.ntmps6
  go_wp2_with fail
  refine (HF _).mono ?_
  rintro e w1 ⟨rfl, hb1⟩
  go_wp2_with fail
  refine (HS _).mono ?_
  rintro e w2 ⟨rfl, rfl⟩
  have e1 := HX.out
  go_wp2_with fail
  clear e1
  refine (HR _).mono ?_
  rintro e w3 ⟨v, ls, rfl, hrd, _, hown, hb3⟩
  obtain rfl := hrd.same rd_known
  obtain ⟨ao, cap, rfl, _, hc⟩ := strs_of_own hown
  obtain ⟨b, o, rfl, _, hc⟩ := hc (by decide)
  have c0 : w3.cell? ⟨b, o, none⟩ = some (.string ⟨#[97, 98]⟩) := hc 0 (by decide)
  have ht : totL [[97, 98]] = 18 := rfl
  have hB := hb1.trans (hb3.mono hb1.size)
  clear hown hb1 hb3 HX HR HF HS hc hrd
  go_wp2
  go_ret
  exact ⟨rfl, hB⟩
end Go.Proofs.Ytfppcecjpaefdaa
