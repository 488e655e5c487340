/- The walk of tallymankeep.happened: it returns true. -/
import Derived.Test.YtapkandekfndoaaDoorEventParse
namespace Go.Proofs.YtapkandekfndoaaDoor
open Go.RowKit
theorem dK_1 : dK 1 = 0 ∧ dD 1 = 2 := of_isDay (ofDay_some (show ofDay 1900 1 2 = some 1 by decide)).2.2.2.2.2.2.2.2.2
theorem DT_1 : bts (DT 1) = [49, 57, 48, 48, 45, 48, 49, 45, 48, 50] := by
  unfold DT; rw [dK_1.1, dK_1.2]; decide
theorem amt_50 : byt (amt 50) = [48, 46, 53, 48] := by
  unfold amt amtSize
  have e : wdN (Int.natAbs 50 / 100) = 1 := wdN_small _ (by decide)
  rw [e]; decide
theorem itoa_3 : Lib.itoa 3 = [51] := by
  rw [itoa_pos 3 (by omega), show (3 : Int).toNat = 3 from rfl, dec_one 3 (by omega)]; rfl
def evNail : Ev := ⟨0, ⟨#[110, 97, 105, 108]⟩, 1, 3, 50, 0, 1⟩
def txNail : ByteArray := ⟨#[49, 57, 48, 48, 45, 48, 49, 45, 48, 50, 32, 105, 110, 32, 110, 97, 105, 108, 32, 51, 32, 97, 116, 32, 48, 46, 53, 48]⟩
theorem nail_rt : Rt evNail := by
  refine ⟨⟨by decide, ?_, ?_⟩, by decide, .inl (by decide)⟩
  · intro c hc
    have : c = 110 := by
      have h : some (110 : UInt8) = some c := hc
      cases h; rfl
    subst this; unfold isLet; decide
  · intro c hc
    have h : c ∈ ([110, 97, 105, 108] : List UInt8) := hc
    simp only [List.mem_cons, List.not_mem_nil, or_false] at h
    left
    rcases h with rfl | rfl | rfl | rfl <;> (unfold isLet; decide)
theorem nail_tx : ET evNail = txNail.data.toList := by
  have e : ET evNail = bts (DT 1) ++ 32 :: ([105, 110] ++ 32 :: ([110, 97, 105, 108] ++ 32 :: (Lib.itoa 3 ++ 32 :: ([97, 116] ++ 32 :: byt (amt 50))))) := rfl
  rw [e, DT_1, amt_50, itoa_3]; rfl
theorem nail_w : EvW evNail := ⟨by decide, by decide, by decide, by decide, by decide, by decide, by decide⟩
set_option maxHeartbeats 4000000 in
theorem happened_any (w : World) (hg : GlobE w) : Calls Tryd.prog 15 #[] w fun e w' => e = .returned (.bool true) ∧ Below w.heap.size w w' := by
  have hP := fun (v : World) (hv : GlobE v) => hidN (eparse_ok txNail evNail v hv (by decide) ⟨nail_rt, rfl, nail_tx.symm ▸ rfl⟩)
  have ht : eb (ET evNail) = txNail := by rw [nail_tx, eb_data]
  have hQ := fun (v : World) (hv : GlobE v) => hidN (eprint_ok evNail v hv nail_w nail_rt)
  rw [ht] at hQ
  have HG := hidN hg
  clear ht hg
  unfold evV evNail txNail at *
  simp only at *
  go_enter Tryd.func15, Tryd.ntmps15
  go_wp2_with fail
  refine (hP _ HG.out).out.mono ?_
  rintro x W1 ⟨rfl, hb1⟩
  obtain ⟨W2, hW2⟩ : ∃ W, W = W1.alloc (.cells #[.int .i64 0, .string ⟨#[110, 97, 105, 108]⟩, .int .i64 1, .int .i64 3, .int .i64 50, .int .i64 0, .int .i64 1] 37) := ⟨_, rfl⟩
  have hB2 : Below w.heap.size w W2 := by rw [hW2]; exact hb1.alloc hb1.size _
  go_wp2_with fail
  rw [← hW2]
  clear hW2
  refine (hQ _ (HG.out.below hB2)).out.mono ?_
  rintro x W3 ⟨rfl, hb3⟩
  clear hP hQ HG
  go_wp2
  go_ret
  exact ⟨rfl, hB2.trans (hb3.mono hB2.size)⟩
end Go.Proofs.YtapkandekfndoaaDoor
