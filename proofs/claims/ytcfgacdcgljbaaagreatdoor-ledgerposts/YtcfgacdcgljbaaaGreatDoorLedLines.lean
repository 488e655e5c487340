/- strings.Lines: its iterator's contract. -/
import Derived.Test.YtcfgacdcgljbaaaGreatDoorLedSeq
import Derived.Test.YtcfgacdcgljbaaaGreatDoorShP
import Derived.Test.YtcfgacdcgljbaaaGreatDoorBnA
namespace Go.Proofs.YtcfgacdcgljbaaaGreatDoor
open Go.RowKit
attribute [local go_sem] Oper.semAt_some
/-- The lines of a text, each with its line feed. -/
def linesL : List UInt8 → List (List UInt8)
  | [] => []
  | b :: l => if b = 10 then [10] :: linesL l else match linesL l with
    | [] => [[b]]
    | x :: xs => (b :: x) :: xs
theorem lines_hit : ∀ (t r : List UInt8), (10 : UInt8) ∉ t → linesL (t ++ 10 :: r) = (t ++ [10]) :: linesL r
  | [], r, _ => by simp [linesL]
  | b :: t, r, h => by
    have hb : ¬ b = 10 := fun e => h (by rw [e]; exact List.mem_cons_self)
    have ih := lines_hit t r (fun hm => h (List.mem_cons_of_mem _ hm))
    rw [List.cons_append, linesL, if_neg hb, ih]
    rfl
theorem lines_last : ∀ (t : List UInt8), t ≠ [] → (10 : UInt8) ∉ t → linesL t = [t]
  | [], h, _ => absurd rfl h
  | [b], _, h => by
    have hb : ¬ b = 10 := fun e => h (by rw [e]; exact List.mem_cons_self)
    simp [linesL, hb]
  | b :: c :: t, _, h => by
    have hb : ¬ b = 10 := fun e => h (by rw [e]; exact List.mem_cons_self)
    have ih := lines_last (c :: t) (by simp) (fun hm => h (List.mem_cons_of_mem _ hm))
    rw [linesL, if_neg hb, ih]
theorem lines_len : ∀ (s : List UInt8), (linesL s).length ≤ s.length ∧ ∀ x ∈ linesL s, x.length ≤ s.length
  | [] => ⟨Nat.le_refl _, fun x hx => by cases hx⟩
  | b :: s => by
    obtain ⟨h1, h2⟩ := lines_len s
    unfold linesL
    split
    · refine ⟨by simp; exact h1, fun x hx => ?_⟩
      rcases List.mem_cons.1 hx with rfl | hx
      · simp
      · have := h2 x hx
        simp; omega
    · split
      · exact ⟨by simp, fun x hx => by simp at hx; subst hx; simp⟩
      · rename_i y ys hq
        rw [hq] at h1 h2
        refine ⟨by simp at h1 ⊢; omega, fun x hx => ?_⟩
        rcases List.mem_cons.1 hx with rfl | hx
        · have := h2 y (by simp)
          simp; omega
        · have := h2 x (by simp [hx])
          simp; omega
theorem byte_spec (c : UInt8) : ∀ (s : List UInt8), (Lib.indexByte s c = -1 ∧ c ∉ s) ∨ ∃ a b, s = a ++ c :: b ∧ c ∉ a ∧ Lib.indexByte s c = a.length
  | [] => Or.inl ⟨rfl, by simp⟩
  | x :: s => by
    by_cases e : x = c
    · subst e; exact Or.inr ⟨[], s, rfl, by simp, by simp [Lib.indexByte]⟩
    · have e' : (x == c) = false := by simpa using e
      rcases byte_spec c s with ⟨h, hn⟩ | ⟨a, b, rfl, hn, h⟩
      · exact Or.inl ⟨by simp [Lib.indexByte, e', h], by simp [hn]; exact fun h => e h.symm⟩
      · refine Or.inr ⟨x :: a, b, rfl, by simp [hn]; exact fun h => e h.symm, ?_⟩
        have hne : ((a.length : Int) == -1) = false := by simp
        rw [Lib.indexByte, e', h, hne]
        simp
/-- A line as a value. -/
def encL (l : List UInt8) : Value := .string ⟨l.toArray⟩
theorem ba_ex {x : ByteArray} {l : List UInt8} (h : x.data.toList = l) : x = ⟨l.toArray⟩ := by
  cases x
  simp at h
  simp [← h]
theorem size_ba (x : ByteArray) : x.size = x.data.toList.length := by simp
set_option maxRecDepth 100000 in
set_option maxHeartbeats 4000000 in
theorem lines1_in (sb : Nat) (s : ByteArray) (w : World) (hs : s.size ≤ 1000000) (hc : w.cell? ⟨sb, 0, none⟩ = some (.string s)) (hf : w.frozen? ⟨sb, 0, none⟩ = false) (n : Nat) (hn : 1 ≤ n) :
    SeqC Fence.wide n Tryz.prog 128 #[.pointer (some ⟨sb, 0, none⟩)] encL sb (linesL s.data.toList) w := by
  intro l J Jx W hW hJ hY h0
  have hIB := fun (x : ByteArray) (W : World) => Tryz.strings_IndexByte x 10 W
  have hfB : Fence.wide.fn 129 := trivial
  have hlt := World.block_lt_of_cell? _ _ hc
  have c0 : W.cell? ⟨sb, 0, none⟩ = some (.string s) := (hW.cell (p := ⟨sb, 0, none⟩) hlt).trans hc
  have z0 : W.frozen? ⟨sb, 0, none⟩ = false := (hW.frozen (p := ⟨sb, 0, none⟩) hlt).trans hf
  obtain ⟨xs, hxs⟩ : ∃ xs, xs = linesL s.data.toList := ⟨_, rfl⟩
  rw [← hxs] at hY ⊢
  have HY := hidE hY
  have HJ := hidE hJ
  have H0 := hidE h0
  have HXS := hidE hxs
  have HC := hidE c0
  have HZ := hidE z0
  clear hY hJ h0 hxs hc hf hW c0 z0
  refine callsIn_of_wp Tryz.func128 rfl trivial ?_ rfl
  simp only [Tryz.ntmps128, List.size_toArray, List.length_cons, List.length_nil, Nat.reduceAdd, Nat.reduceSub, Array.replicate_succ, Array.replicate_zero, List.push_toArray, List.append_toArray, List.nil_append, List.cons_append]
  gi_wp2
  gi_loopw [] (fun wr => ∃ (pre : List (List UInt8)) (cur : ByteArray), cur.size ≤ 1000000 ∧ Hid (wr.cell? ⟨sb, 0, none⟩ = some (.string cur)) ∧ Hid (wr.frozen? ⟨sb, 0, none⟩ = false) ∧ Hid (xs = pre ++ linesL cur.data.toList) ∧ Hid (J pre wr)) (fun wr => match wr.cell? ⟨sb, 0, none⟩ with | some (.string c) => c.size | _ => 0)
  case atStart => exact ⟨[], s, hs, HC, HZ, HXS, H0⟩
  case round =>
    obtain ⟨pre, cur, hcs, HC, HZ, HX, HJp⟩ := hrel
    have c0 := HC.out
    have z0 := HZ.out
    by_cases he : cur.size = 0
    · have he2 : ¬ (0 : Int) < (cur.size : Int) := by omega
      have hcd : cur.data.toList = [] := List.eq_nil_of_length_eq_zero (by rw [← size_ba]; exact he)
      have HXE : Hid (xs = pre) := by
        have h1 := HX.out
        rw [hcd] at h1
        show xs = pre
        simpa [linesL] using h1
      clear hcd
      gi_wp2
      go_end0
      refine ⟨⟨_, rfl⟩, .inl ?_⟩
      rw [HXE.out]
      exact HJp.out
    · have he2 : (0 : Int) < (cur.size : Int) := by omega
      rcases byte_spec 10 cur.data.toList with ⟨hi, hn⟩ | ⟨a, b, hab, hn, hi⟩
      · have hcall := fun W => hIB cur W
        have hi2 : Lib.indexByte cur.data.toList (Int.toNat 10).toUInt8 = -1 := hi
        simp only [hi2] at hcall
        have hne : cur.data.toList ≠ [] := fun e => he (by rw [size_ba, e]; rfl)
        have HL := hidE (lines_last cur.data.toList hne hn)
        clear hi hi2 hn hIB hne
        obtain ⟨W1, hW1⟩ : ∃ X, X = wr.setCell ⟨sb, 0, none⟩ (.string ⟨#[]⟩) := ⟨_, rfl⟩
        have g1 : wr.grownBy W1 (some sb) := by rw [hW1]; exact ⟨rfl, rfl, rfl, by simp, fun k _ hk => Below.heap_setCell _ _ _ k (fun e => hk (by rw [e]))⟩
        have k0 : W1.cell? ⟨sb, 0, none⟩ = some (.string ⟨#[]⟩) := by rw [hW1]; exact World.cell?_setCell_same _ _ _ c0
        have k1 : W1.frozen? ⟨sb, 0, none⟩ = false := by rw [hW1, World.frozen?_setCell]; exact z0
        have hX2 : xs = pre ++ [cur.data.toList] := by rw [HX.out, HL.out]
        have hyy := HY.out pre cur.data.toList W1 (HJ.out _ _ _ HJp.out g1) (by rw [hX2]; exact List.prefix_rfl)
        have e1 : encL cur.data.toList = .string cur := by unfold encL; rw [← ba_ex rfl]
        rw [e1] at hyy
        obtain ⟨fn, tmps, assign, body, hy, hR⟩ := hyy
        have HX2 := hidE hX2
        have HR := hidE hR
        have HK0 := hidE k0
        have HK1 := hidE k1
        rw [hW1] at hy
        have HW1 := hidE hW1
        clear hX2 hR k0 k1 hW1 g1 e1
        gi_wp2_with (gi_at_call 129; refine (callsIn_wide.2 (hcall _)).mono ?_; rintro e w' ⟨rfl, rfl⟩)
        rw [← HW1.out]
        refine HR.out.mono ?_
        rintro e W3 (⟨rfl, hJ3, hs3⟩ | ⟨rfl, hJx3⟩)
        · have HJ3 := hidE hJ3
          have HC3 : Hid (W3.cell? ⟨sb, 0, none⟩ = some (.string ⟨#[]⟩)) := (World.cell?_of_block (a := ⟨sb, 0, none⟩) hs3).trans HK0.out
          have HZ3 : Hid (W3.frozen? ⟨sb, 0, none⟩ = false) := (World.frozen?_of_block (a := ⟨sb, 0, none⟩) hs3).trans HK1.out
          clear hJ3 hs3
          gi_wp2
          go_roundw
          case rel => exact ⟨pre ++ [cur.data.toList], ⟨#[]⟩, by show 0 ≤ 1000000; omega, HC3, HZ3, by show xs = _; rw [HX2.out]; simp [linesL], HJ3⟩
          case measure =>
            rw [HC3.out, HC.out]
            show 0 < cur.size
            omega
        · gi_wp2
          refine bodyPost_ret (results_none rfl _ _ _) rfl ?_
          exact ⟨⟨_, rfl⟩, .inr ⟨pre ++ [cur.data.toList], by rw [HX2.out]; exact List.prefix_rfl, hJx3⟩⟩
      · have hcall := fun W => hIB cur W
        have hi2 : Lib.indexByte cur.data.toList (Int.toNat 10).toUInt8 = a.length := hi
        simp only [hi2] at hcall
        have hal : a.length + 1 ≤ cur.size := by rw [size_ba, hab]; simp
        have HL := hidE (lines_hit a b hn)
        have eA : (cur.extract 0 (a.length + 1)).data.toList = a ++ [10] := by
          rw [ByteArray.data_extract, Array.toList_extract, hab]
          simp [List.take_append]
          exact List.take_of_length_le (by omega)
        have eB : (cur.extract (a.length + 1) cur.size).data.toList = b := by
          rw [ByteArray.data_extract, Array.toList_extract, size_ba, hab]
          simp
          exact List.take_of_length_le (by omega)
        have hszB : (cur.extract (a.length + 1) cur.size).size < cur.size := by
          rw [size_ba, eB, size_ba, hab]
          simp
          omega
        obtain ⟨lx, hlx⟩ : ∃ x, x = cur.extract 0 (a.length + 1) := ⟨_, rfl⟩
        obtain ⟨nx, hnx⟩ : ∃ x, x = cur.extract (a.length + 1) cur.size := ⟨_, rfl⟩
        rw [← hlx] at eA
        rw [← hnx] at eB hszB
        obtain ⟨W1, hW1⟩ : ∃ X, X = (wr.setCell ⟨sb, 0, none⟩ (.string nx)).drew := ⟨_, rfl⟩
        have g1 : wr.grownBy W1 (some sb) := by rw [hW1]; exact ⟨rfl, rfl, rfl, by show _ ≤ (wr.setCell _ _).heap.size; simp, fun k _ hk => Below.heap_setCell _ _ _ k (fun e => hk (by rw [e]))⟩
        have k0 : W1.cell? ⟨sb, 0, none⟩ = some (.string nx) := by rw [hW1]; exact World.cell?_setCell_same wr _ _ c0
        have k1 : W1.frozen? ⟨sb, 0, none⟩ = false := by rw [hW1]; exact (World.frozen?_setCell wr _ _ _).trans z0
        have hX2 : xs = (pre ++ [lx.data.toList]) ++ linesL nx.data.toList := by rw [HX.out, hab, HL.out, eA, eB]; simp
        have hyy := HY.out pre lx.data.toList W1 (HJ.out _ _ _ HJp.out g1) (by rw [hX2]; exact List.prefix_append _ _)
        have e1 : encL lx.data.toList = .string lx := by unfold encL; rw [← ba_ex rfl]
        rw [e1] at hyy
        obtain ⟨fn, tmps, assign, body, hy, hR⟩ := hyy
        have HX2 := hidE hX2
        have HR := hidE hR
        have HK0 := hidE k0
        have HK1 := hidE k1
        have HW1 := hidE hW1
        have HLX := hidE hlx
        have HNX := hidE hnx
        clear hi hi2 hab hn hIB hX2 hR k0 k1 hW1 g1 e1 eA eB hlx hnx
        gi_wp2_with (gi_at_call 129; refine (callsIn_wide.2 (hcall _)).mono ?_; rintro e w' ⟨rfl, rfl⟩)
        gi_region
        rw [← HNX.out, ← HLX.out, ← HW1.out]
        gi_wp2
        refine HR.out.mono ?_
        rintro e W3 (⟨rfl, hJ3, hs3⟩ | ⟨rfl, hJx3⟩)
        · have HJ3 := hidE hJ3
          have HC3 : Hid (W3.cell? ⟨sb, 0, none⟩ = some (.string nx)) := (World.cell?_of_block (a := ⟨sb, 0, none⟩) hs3).trans HK0.out
          have HZ3 : Hid (W3.frozen? ⟨sb, 0, none⟩ = false) := (World.frozen?_of_block (a := ⟨sb, 0, none⟩) hs3).trans HK1.out
          clear hJ3 hs3
          gi_wp2
          go_roundw
          case rel => exact ⟨pre ++ [lx.data.toList], nx, by omega, HC3, HZ3, HX2, HJ3⟩
          case measure =>
            rw [HC3.out, HC.out]
            exact hszB
        · gi_wp2
          refine bodyPost_ret (results_none rfl _ _ _) rfl ?_
          exact ⟨⟨_, rfl⟩, .inr ⟨pre ++ [lx.data.toList], by rw [HX2.out]; exact List.prefix_append _ _, hJx3⟩⟩
end Go.Proofs.YtcfgacdcgljbaaaGreatDoor
