/- The walk of journal.number. -/
import Derived.Test.YtfppcecjpaefdaaDoorJrSum
import Derived.Laws.BytesArg
namespace Go.Proofs.YtfppcecjpaefdaaDoor
open Go.RowKit
/-- A text of bytes. -/
def ba (l : List UInt8) : ByteArray := ⟨l.toArray⟩
theorem ba_data (l : List UInt8) : (ba l).data.toList = l := by simp [ba]
theorem ba_size (l : List UInt8) : (ba l).size = l.length := by simp [ba, ByteArray.size]
theorem ba_of (x : ByteArray) : ba x.data.toList = x := by cases x; simp [ba]
theorem ba_app (a b : List UInt8) : ba a ++ ba b = ba (a ++ b) := by
  apply ByteArray.ext
  simp [ba, ByteArray.data_append]
theorem ba_inj {a b : List UInt8} (h : ba a = ba b) : a = b := by rw [← ba_data a, h, ba_data]
theorem size_data (x : ByteArray) : x.data.toList.length = x.size := by simp
def nbAt (n k j : Nat) : Int := if j < k then ((n / 256 ^ j % 256 : Nat) : Int) else 0
def nbW (w : World) (n k : Nat) : World := w.alloc (Obj.cells #[.int .u8 (nbAt n k 0), .int .u8 (nbAt n k 1), .int .u8 (nbAt n k 2), .int .u8 (nbAt n k 3)] 49)
set_option maxHeartbeats 2000000 in
theorem number_any (n : Nat) (w : World) (hn : n < 4294967296) :
    Calls Tryd.prog 14 #[.int .u32 n] w fun e w' => e = .returned (.string (ba (fourL n))) ∧ Below w.heap.size w w' := by
  go_enter Tryd.func14, Tryd.ntmps14
  go_wp2
  go_loopw [5] (fun i wr => ∃ k : Nat, k ≤ 4 ∧ i = .int .i64 k ∧ wr = nbW w n k) (fun i _ => 4 - (intOf i).toNat)
  case atStart => exact ⟨0, Nat.zero_le _, rfl, rfl⟩
  case round =>
    obtain ⟨k, hk, rfl, rfl⟩ := hrel
    obtain rfl | rfl | rfl | rfl | rfl : k = 0 ∨ k = 1 ∨ k = 2 ∨ k = 3 ∨ k = 4 := by omega
    · unfold nbW
      go_wp2
      refine ⟨⟨1, by omega, rfl, ?_⟩, by simp [intOf]⟩
      congr 3
      simp [nbAt]
    · unfold nbW
      go_wp2
      refine ⟨⟨2, by omega, rfl, ?_⟩, by simp [intOf]⟩
      congr 3
    · unfold nbW
      go_wp2
      refine ⟨⟨3, by omega, rfl, ?_⟩, by simp [intOf]⟩
      congr 3
    · unfold nbW
      go_wp2
      refine ⟨⟨4, by omega, rfl, ?_⟩, by simp [intOf]⟩
      congr 3
      simp [nbAt]
      omega
    · have hc : ∀ i, i < 4 → (nbW w n 4).cell? ⟨w.heap.size, 0 + i, none⟩ = some (.int .u8 (([nbAt n 4 0, nbAt n 4 1, nbAt n 4 2, nbAt n 4 3] : List Int).getD i 0)) := fun i hi => by
        obtain rfl | rfl | rfl | rfl : i = 0 ∨ i = 1 ∨ i = 2 ∨ i = 3 := by omega
        all_goals simp [nbW, go_sem]
      have hrun := run_convert_bytes_arg (P := Tryd.prog) (nbW w n 4) 48 5 Tryd.underlying48 Tryd.underlying5 w.heap.size 0 4 4 [nbAt n 4 0, nbAt n 4 1, nbAt n 4 2, nbAt n 4 3] rfl hc 9 Tryd.underlying9
      have hb : Below w.heap.size w (nbW w n 4) := (Below.refl _ _).alloc (Nat.le_refl _) _
      have HE : Hid (strOfNums [nbAt n 4 0, nbAt n 4 1, nbAt n 4 2, nbAt n 4 3] = ba (fourL n)) := by
        show strOfNums _ = _
        simp [strOfNums, nbAt, fourL, ba]
        refine ⟨?_, ?_, ?_, ?_⟩ <;> congr 1
      go_wp2
      go_ret
      exact ⟨by rw [HE.out]; rfl, hb⟩
end Go.Proofs.YtfppcecjpaefdaaDoor
