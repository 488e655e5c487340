/- The walks of slices.Index, slices.Contains at texts, and of tallymankeep.items. -/
import Derived.Test.YtcfgacdcgljbaaaGreatBnN
import Derived.Test.YtcfgacdcgljbaaaGreatBnM
namespace Go.Proofs.YtcfgacdcgljbaaaGreat
open Go.RowKit
def strC (x : ByteArray) : List Value := [.string x]
theorem strC_len (x : ByteArray) : (strC x).length = 1 := rfl
theorem txt_ne {x y : ByteArray} (h : ¬ x = y) : (x.toList == y.toList) = false := by
  rw [ByteArray.toList_eq, ByteArray.toList_eq]
  rw [beq_eq_false_iff_ne]
  exact fun e => h (ByteArray.ext (Array.toList_inj.1 e))
def memB (x : ByteArray) (l : List ByteArray) : Bool := l.any fun y => decide (x = y)
theorem memB_iff (x : ByteArray) (l : List ByteArray) : memB x l = true ↔ x ∈ l := by
  unfold memB
  rw [List.any_eq_true]
  constructor
  · rintro ⟨y, hy, e⟩
    have : x = y := by simpa using e
    rw [this]; exact hy
  · intro h; exact ⟨x, h, by simp⟩
/-- The items of events, each once. -/
def itsL (l : List Ev) : List ByteArray := l.foldl (fun acc e => if memB e.item acc then acc else acc ++ [e.item]) []
theorem its_snoc (a : List Ev) (x : Ev) : itsL (a ++ [x]) = if memB x.item (itsL a) then itsL a else itsL a ++ [x.item] := by
  unfold itsL; rw [List.foldl_append]; rfl
theorem its_len_aux : ∀ (l : List Ev) (acc : List ByteArray), (l.foldl (fun acc e => if memB e.item acc then acc else acc ++ [e.item]) acc).length ≤ acc.length + l.length
  | [], acc => by simp
  | e :: l, acc => by
    rw [List.foldl_cons, List.length_cons]
    have := its_len_aux l (if memB e.item acc then acc else acc ++ [e.item])
    split at this
    · rename_i h; rw [if_pos h]; omega
    · rename_i h; rw [if_neg h]; simp at this; omega
theorem its_len (l : List Ev) : (itsL l).length ≤ l.length := by have := its_len_aux l []; simp only [List.length_nil, Nat.zero_add] at this; exact this
theorem its_mem_aux : ∀ (l : List Ev) (acc : List ByteArray) (x : ByteArray), x ∈ l.foldl (fun acc e => if memB e.item acc then acc else acc ++ [e.item]) acc → x ∈ acc ∨ ∃ e ∈ l, e.item = x
  | [], acc, x, h => Or.inl h
  | e :: l, acc, x, h => by
    rcases its_mem_aux l _ x h with a | ⟨e', he', a⟩
    · simp only at a
      split at a
      · exact Or.inl a
      · rcases List.mem_append.1 a with b | b
        · exact Or.inl b
        · rw [List.mem_singleton] at b
          exact Or.inr ⟨e, List.mem_cons_self .., b.symm⟩
    · exact Or.inr ⟨e', List.mem_cons_of_mem _ he', a⟩
theorem its_mem {l : List Ev} {x : ByteArray} (h : x ∈ itsL l) : ∃ e ∈ l, e.item = x := by
  rcases its_mem_aux l [] x h with a | a
  · cases a
  · exact a
theorem str_form {w : World} {B : Nat} {v : Value} {xs : List ByteArray} (h : w.ownsRow B 9 1 v xs.length (xs.flatMap strC)) : (v = .slice none 0 0 ∧ xs = []) ∨ ∃ g cap, v = .slice (some ⟨g, 0, none⟩) xs.length cap ∧ g < w.heap.size ∧ ∀ k (hk : k < xs.length), w.cell? ⟨g, k, none⟩ = some (.string xs[k]) := by
  rcases own_form h with ⟨hv, hn, _⟩ | ⟨g, cap, hv, _, hgl, _⟩
  · exact Or.inl ⟨hv, List.length_eq_zero_iff.1 hn⟩
  · subst hv
    refine Or.inr ⟨g, cap, rfl, hgl, fun k hk => ?_⟩
    have := (own_cell strC_len h k 0 hk (by omega)).1
    simpa [strC] using this
set_option maxHeartbeats 1000000 in
theorem contains_any {B : Nat} (xs : List ByteArray) (v : Value) (w : World) (h : w.ownsRow B 9 1 v xs.length (xs.flatMap strC)) (x : ByteArray) (hl : xs.length ≤ 1000000) :
    Calls Tryz.prog 18 #[v, .string x] w fun r w' => r = .returned (.bool (memB x xs)) ∧ Below w.heap.size w w' := by
  have hix : Calls Tryz.prog 36 #[v, .string x] w fun r w' => ∃ i : Int, r = .returned (.int .i64 i) ∧ Found (fun y => decide (x = y)) xs i ∧ Below w.heap.size w w' := by
    rcases str_form h with ⟨rfl, rfl⟩ | ⟨g, cap, rfl, hg, hc⟩
    · go_enter Tryz.func36, Tryz.ntmps36
      go_wp2
      refine wp_loop_rounds 1 ?_
      rw [rounds_succ]
      go_wp2
      go_ret
      exact ⟨-1, rfl, Or.inl ⟨rfl, fun y hy => (by cases hy)⟩, Below.refl _ _⟩
    · have HC : Hid (∀ k (hk : k < xs.length), w.cell? ⟨g, k, none⟩ = some (.string xs[k])) := hc
      clear hc h
      go_enter Tryz.func36, Tryz.ntmps36
      go_wp2
      go_loopw [8] (fun i wr => ∃ k : Nat, k ≤ xs.length ∧ i = .int .i64 k ∧ Hid (∀ j (hj : j < xs.length), j < k → decide (x = xs[j]) = false) ∧ Below w.heap.size w wr) (fun i _ => xs.length - (intOf i).toNat)
      case atStart => exact ⟨0, Nat.zero_le _, rfl, fun j _ hj => absurd hj (Nat.not_lt_zero _), Below.refl _ _⟩
      case round =>
        obtain ⟨k, hk, rfl, HN, hb⟩ := hrel
        by_cases hlt : k < xs.length
        · have c0 := (hb.cell (p := ⟨g, k, none⟩) hg).trans (HC.out k hlt)
          obtain ⟨y, hy⟩ : ∃ y, y = xs[k] := ⟨_, rfl⟩
          have HY : Hid (xs[k] = y) := hy.symm
          rw [← hy] at c0
          clear hy
          by_cases he : x = y
          · subst he
            go_wp2
            go_ret
            exact ⟨k, rfl, Or.inr ⟨k, hlt, rfl, by rw [HY.out]; simp, HN.out⟩, hb⟩
          · have he2 := txt_ne he
            go_wp2
            go_roundw
            case rel =>
              refine ⟨k + 1, by omega, by go_num, fun j hj hjk => ?_, hb⟩
              rcases Nat.lt_or_eq_of_le (Nat.le_of_lt_succ hjk) with z | z
              · exact HN.out j hj z
              · subst z; rw [HY.out]; simpa using he
            case measure => simp [intOf]; omega
        · obtain rfl : k = xs.length := by omega
          go_wp2
          go_ret
          exact ⟨-1, rfl, Or.inl ⟨rfl, fun y hy => by
            obtain ⟨j, hj, rfl⟩ := List.getElem_of_mem hy
            exact HN.out j hj hj⟩, hb⟩
  clear h
  go_enter Tryz.func18, Tryz.ntmps18
  go_wp2_with fail
  refine hix.mono ?_
  rintro e w1 ⟨i, rfl, hfd, hb⟩
  have ha := hfd.any
  have HA : Hid (memB x xs = decide (0 ≤ i)) := ha
  clear ha hfd hix
  go_wp2
  go_ret
  exact ⟨by rw [HA.out]; rfl, hb⟩
theorem Tryz.infoStr : (Tryz.prog.info? 9).map (fun i => (i.zero, i.size, i.bytes)) = some (some (.string ⟨#[]⟩), 1, 16) := by kernel_rfl
set_option maxHeartbeats 2000000 in
theorem items_any (l : List Ev) (ao : Option Addr) (cap : Nat) (w : World) (h : EvsC w ao l) (hl : l.length ≤ 1000) :
    Calls Tryz.prog 7 #[.slice ao l.length cap] w fun r w' => ∃ v' : Value, r = .returned v' ∧ w'.ownsRow w.heap.size 9 1 v' (itsL l).length ((itsL l).flatMap strC) ∧ Below w.heap.size w w' := by
  obtain ⟨i0, hi, hz0, hz1, hz2⟩ := info_parts Tryz.infoStr
  have HL : Hid (EvsC w ao l) := h
  clear h
  go_enter Tryz.func7, Tryz.ntmps7
  go_wp2
  go_loopw [3, 4] (fun u i wr => ∃ k : Nat, k ≤ l.length ∧ i = .int .i64 k ∧ Hid (wr.ownsRow w.heap.size 9 1 u (itsL (l.take k)).length ((itsL (l.take k)).flatMap strC)) ∧ Below w.heap.size w wr) (fun _ i _ => l.length - (intOf i).toNat)
  case atStart => exact ⟨0, Nat.zero_le _, rfl, World.ownsRow_nil _ _ _ _, Below.refl _ _⟩
  case round =>
    obtain ⟨k, hk, rfl, HO, hb⟩ := hrel
    by_cases hlt : k < l.length
    · obtain ⟨g, o, hao, hg, hc⟩ := HL.out.below hb (by omega)
      subst hao
      obtain ⟨x, hx⟩ : ∃ x, x = l[k] := ⟨_, rfl⟩
      have q1 : wr.cell? ⟨g, o + k * 7 + 1, none⟩ = some (.string x.item) := by rw [hc k hlt 1 (by omega), hx]; rfl
      have HT : Hid (l.take (k + 1) = l.take k ++ [x]) := by show _ = _; rw [List.take_succ_eq_append_getElem hlt, hx]
      have hnl : (itsL (l.take k)).length ≤ 1000 := Nat.le_trans (its_len _) (by rw [List.length_take]; omega)
      have HNS := its_snoc (l.take k) x
      rw [← HT.out] at HNS
      have hct := contains_any (itsL (l.take k)) u3 wr HO.out x.item (by omega)
      generalize x.item = it at q1 HNS hct
      clear hx hc HT
      go_wp2_with fail
      refine hct.mono ?_
      rintro e w1 ⟨rfl, hb1⟩
      have hBw : Below w.heap.size w w1 := hb.trans (hb1.mono hb.size)
      have HO2 : Hid (w1.ownsRow w.heap.size 9 1 u3 (itsL (l.take k)).length ((itsL (l.take k)).flatMap strC)) := own_below HO.out hb1 (Nat.le_refl _)
      have c1 := (hb1.cell (p := ⟨g, o + k * 7 + 1, none⟩) hg).trans q1
      clear hct hb1 q1
      generalize hmb : memB it (itsL (l.take k)) = mb at HNS ⊢
      clear hmb
      cases mb with
      | true =>
        have HN : Hid (itsL (l.take (k + 1)) = itsL (l.take k)) := HNS
        clear HNS
        go_wp2
        go_roundw
        case rel =>
          refine ⟨k + 1, by omega, by go_num, ?_, hBw⟩
          show World.ownsRow _ _ _ _ _ _ _
          rw [HN.out]
          exact HO2.out
        case measure => simp [intOf]; omega
      | false =>
        have HN : Hid (itsL (l.take (k + 1)) = itsL (l.take k) ++ [it]) := HNS
        clear HNS
        obtain ⟨nb, hnb⟩ : ∃ nb, nb = itsL (l.take k) := ⟨_, rfl⟩
        rw [← hnb] at HO2 HN hnl
        clear hnb
        go_wp2_with (first
          | (at_builtin; refine wpList_append_own _ rfl _ _ 27 rfl w.heap.size 9 i0 (.string ⟨#[]⟩) 1 16 Tryz.underlying27 hi hz0 hz1 hz2 rfl (by decide) _ _ _ rfl (HO2.out.alloc _) ⟨w1.heap.size, 0, none⟩ 1 1 (strC it) rfl rfl ?d1 ?d2 ?d3 ?d4 ?d5 ?_)
          | go_in)
        case d1 => exact cells_of_list rfl
        case d2 => intro u hu; simp only [strC, List.mem_singleton] at hu; subst hu; rfl
        case d3 => unfold maxLen; omega
        case d4 => omega
        case d5 => have := hBw.size; simp; omega
        · intro v' w3 hown3 hgr _
          go_wp2
          go_roundw
          case rel =>
            refine ⟨k + 1, by omega, by go_num, ?_, ?_⟩
            · show World.ownsRow _ _ _ _ _ _ _
              rw [HN.out]
              simp only [List.length_append, List.length_cons, List.length_nil, Nat.zero_add, List.flatMap_append, List.flatMap_cons, List.flatMap_nil, List.append_nil]
              exact hown3
            · exact (hBw.alloc (by have := hBw.size; omega) _).grown hgr (by have := hBw.size; simp; omega) (fun j hj => (HO2.out.lt j hj).1)
          case measure => simp [intOf]; omega
    · obtain rfl : k = l.length := by omega
      have ho := HO.out
      rw [List.take_length] at ho
      go_wp2
      go_ret
      exact ⟨_, rfl, ho, hb⟩
end Go.Proofs.YtcfgacdcgljbaaaGreat
