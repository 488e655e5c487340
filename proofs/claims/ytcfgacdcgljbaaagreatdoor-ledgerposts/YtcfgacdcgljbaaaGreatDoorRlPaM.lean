/- Texts parted at a byte, and which lines are postings, in plain mathematics. No walk. -/
import Derived.Test.YtcfgacdcgljbaaaGreatDoorBnC
import Derived.Test.YtcfgacdcgljbaaaGreatDoorLedLines
namespace Go.Proofs.YtcfgacdcgljbaaaGreatDoor
open Go.RowKit
/-- The parts of a text at a byte. -/
def pcs (c : UInt8) : List UInt8 → List (List UInt8)
  | [] => [[]]
  | b :: l => if b = c then [] :: pcs c l else match pcs c l with
    | [] => [[b]]
    | x :: xs => (b :: x) :: xs
theorem pcs_ne (c : UInt8) : ∀ l : List UInt8, pcs c l ≠ []
  | [] => by simp [pcs]
  | b :: l => by
    unfold pcs
    split
    · simp
    · split <;> simp
theorem pcs_hit (c : UInt8) : ∀ (t r : List UInt8), c ∉ t → pcs c (t ++ c :: r) = t :: pcs c r
  | [], r, _ => by simp [pcs]
  | b :: t, r, h => by
    have hb : ¬ b = c := fun e => h (by rw [e]; exact List.mem_cons_self)
    have ih := pcs_hit c t r (fun hm => h (List.mem_cons_of_mem _ hm))
    rw [List.cons_append, pcs, if_neg hb, ih]
theorem pcs_none (c : UInt8) : ∀ (t : List UInt8), c ∉ t → pcs c t = [t]
  | [], _ => rfl
  | b :: t, h => by
    have hb : ¬ b = c := fun e => h (by rw [e]; exact List.mem_cons_self)
    have ih := pcs_none c t (fun hm => h (List.mem_cons_of_mem _ hm))
    rw [pcs, if_neg hb, ih]
theorem pcs_app (c : UInt8) : ∀ (a b : List UInt8), pcs c (a ++ c :: b) = pcs c a ++ pcs c b
  | [], b => by simp [pcs]
  | x :: a, b => by
    have ih := pcs_app c a b
    rw [List.cons_append]
    by_cases e : x = c
    · rw [pcs, if_pos e, ih, pcs, if_pos e]; rfl
    · have hn := pcs_ne c a
      rw [pcs, if_neg e, ih, pcs, if_neg e]
      rcases h : pcs c a with _ | ⟨y, ys⟩
      · exact absurd h hn
      · rfl
/-- Split parts a text so. -/
theorem split_pcs (c : UInt8) : ∀ (n : Nat) (s : List UInt8), s.length ≤ n → Lib.splitK [c] 0 (Lib.count s [c]) s = pcs c s
  | 0, s, h => by
    have : s = [] := List.eq_nil_of_length_eq_zero (by omega)
    subst this
    rw [Lib.count_miss (indexL_not c [] (by simp))]
    rfl
  | n + 1, s, h => by
    rcases byte_spec c s with ⟨_, hn⟩ | ⟨a, b, rfl, hn, _⟩
    · rw [Lib.count_miss (indexL_not c s hn), pcs_none c s hn]; rfl
    · have hi := indexL_at c a b hn
      have hc := Lib.count_hit (s := a ++ c :: b) (sub := [c]) (by simp) hi
      have hd : (a ++ c :: b).drop (a.length + [c].length) = b := by simp
      rw [hd] at hc
      rw [hc, Nat.add_comm, splitL_at c _ a b hn, pcs_hit c a b hn, split_pcs c n b (by simp at h; omega)]
/-- The parts of a text, as texts. -/
def bpc (c : UInt8) (s : ByteArray) : List ByteArray := Lib.splitB ⟨#[c]⟩ 0 (Lib.countB s ⟨#[c]⟩) s
theorem bpc_len (c : UInt8) (s : ByteArray) : (bpc c s).length = Lib.countB s ⟨#[c]⟩ + 1 := Lib.splitB_all ⟨#[c]⟩ (by show 1 ≤ 1; omega) 0 _ s rfl
theorem bpc_is (c : UInt8) (s : ByteArray) : (bpc c s).map (fun b => b.data.toList) = pcs c s.data.toList :=
  (Lib.splitB_data ⟨#[c]⟩ 0 _ s).trans (split_pcs c _ _ (Nat.le_refl _))
theorem bpc_few (c : UInt8) (s : ByteArray) : (bpc c s).length ≤ s.size + 2 := by
  have hle : Lib.countB s ⟨#[c]⟩ ≤ s.data.toList.length + 1 := Lib.count_le _ _
  rw [← size_ba] at hle
  rw [bpc_len]; omega
theorem bpc_size (c : UInt8) (s x : ByteArray) (h : x ∈ bpc c s) : x.size ≤ s.size := by
  have hm : x.data.toList ∈ Lib.splitK [c] 0 (Lib.count s.data.toList [c]) s.data.toList := by
    rw [← Lib.splitB_data ⟨#[c]⟩ 0 _ s]
    exact List.mem_map.2 ⟨x, h, rfl⟩
  have := pieceL_le [c] _ _ _ hm
  rw [← size_ba, ← size_ba] at this; exact this
/-- A text that ends in a line feed: its lines are the parts of what stands ahead of it. -/
theorem lines_nl : ∀ (u : List UInt8), linesL (u ++ [10]) = (pcs 10 u).map (· ++ [10])
  | [] => rfl
  | b :: u => by
    have ih := lines_nl u
    have hn := pcs_ne 10 u
    rw [List.cons_append]
    by_cases e : b = 10
    · rw [linesL, if_pos e, ih, pcs, if_pos e]; rfl
    · rw [linesL, if_neg e, ih, pcs, if_neg e]
      rcases h : pcs 10 u with _ | ⟨y, ys⟩
      · exact absurd h hn
      · rfl
/-- A text that doesn't: its last line is the last part. -/
theorem lines_no : ∀ (u : List UInt8), u ≠ [] → u.getLast? ≠ some 10 → ∃ L z, pcs 10 u = L ++ [z] ∧ linesL u = L.map (· ++ [10]) ++ [z] ∧ (10 : UInt8) ∉ z
  | [], h, _ => absurd rfl h
  | [b], _, h => by
    have e : ¬ b = 10 := fun e => h (by rw [e]; rfl)
    exact ⟨[], [b], by simp [pcs, e], by simp [linesL, e], by simpa using fun h => e h.symm⟩
  | b :: c :: u, _, h => by
    obtain ⟨L, z, h1, h2, h3⟩ := lines_no (c :: u) (by simp) (by simpa [List.getLast?_cons_cons] using h)
    by_cases e : b = 10
    · exact ⟨[] :: L, z, by rw [pcs, if_pos e, h1]; rfl, by rw [linesL, if_pos e, h2]; rfl, h3⟩
    · rcases L with _ | ⟨x, xs⟩
      · refine ⟨[], b :: z, by rw [pcs, if_neg e, h1]; rfl, by rw [linesL, if_neg e, h2]; rfl, ?_⟩
        simp [h3]; exact fun h => e h.symm
      · exact ⟨(b :: x) :: xs, z, by rw [pcs, if_neg e, h1]; rfl, by rw [linesL, if_neg e, h2]; rfl, h3⟩
theorem tl_no10 {p : Pst} (h : Vp p) : (10 : UInt8) ∉ tline p := by
  have ha : ∀ {x : ByteArray}, x ∈ accL → (10 : UInt8) ∉ x.data.toList := by
    intro x h
    simp only [accL, List.mem_cons, List.not_mem_nil, or_false] at h
    rcases h with rfl | rfl | rfl | rfl | rfl | rfl <;> decide
  unfold tline
  simp only [List.mem_append, List.mem_cons, not_or]
  exact ⟨amt_no _ 10 (by decide), by decide, ha h.d, by decide, by decide, by decide, ha h.c⟩
/-- A part without a line feed is no posting's line. -/
theorem no_nl {z : List UInt8} (h : (10 : UInt8) ∉ z) : ¬ ∃ p, Vp p ∧ pline p = z := by
  rintro ⟨p, _, rfl⟩
  exact h (by rw [pline_t]; simp)
/-- The words of a posting's line. -/
theorem pcs_tline {p : Pst} (h : Vp p) : pcs 32 (tline p) = [byt (amt p.amt), p.deb.data.toList, [102, 114, 111, 109], p.cre.data.toList] := by
  unfold tline
  rw [pcs_hit 32 _ _ (amt_no _ 32 (by decide)), pcs_hit 32 _ _ (accL_sz h.d).2.2, pcs_hit 32 _ _ (by decide), pcs_none 32 _ (accL_sz h.c).2.2]
/-- Which texts are accounts, by the document's own words. -/
def wordsL : List UInt8 := [32, 103, 97, 105, 110, 32, 108, 97, 116, 101, 32, 108, 111, 115, 115, 32, 115, 111, 108, 100, 32, 115, 116, 111, 99, 107, 32, 115, 117, 112, 112, 108, 121, 32]
theorem contains_infix (sub : List UInt8) : ∀ (s : List UInt8), 0 ≤ Lib.index s sub → ∃ a b, s = a ++ (sub ++ b)
  | [], h => by
    unfold Lib.index at h
    rcases hs : sub with _ | ⟨x, xs⟩
    · exact ⟨[], [], rfl⟩
    · rw [hs] at h; simp at h
  | x :: s, h => by
    rw [Lib.index] at h
    by_cases hp : sub.isPrefixOf (x :: s) = true
    · obtain ⟨b, hb⟩ := List.isPrefixOf_iff_prefix.1 hp
      exact ⟨[], b, hb.symm⟩
    · rw [Bool.not_eq_true] at hp
      rw [hp] at h
      by_cases hn : Lib.index s sub = -1
      · rw [hn] at h; simp at h
      · have h2 : 0 ≤ Lib.index s sub := by
          have hne : ((Lib.index s sub) == -1) = false := by simpa using hn
          simp only [hne] at h
          simp at h
          omega
        obtain ⟨a, b, e⟩ := contains_infix sub s h2
        exact ⟨x :: a, b, by rw [e]; rfl⟩
theorem acc_words (t : ByteArray) (h1 : Lib.contains t.data.toList [32] = false) (h2 : t.size ≠ 0) (h3 : Lib.contains wordsL (32 :: t.data.toList ++ [32]) = true) : t ∈ accL := by
  have hn : (32 : UInt8) ∉ t.data.toList := by
    intro hm
    rcases byte_spec 32 t.data.toList with ⟨_, h⟩ | ⟨a, b, e, ha, _⟩
    · exact h hm
    · unfold Lib.contains at h1
      rw [e, indexL_at 32 a b ha] at h1
      simp at h1
  unfold Lib.contains at h3
  obtain ⟨a, b, e⟩ := contains_infix _ _ (of_decide_eq_true h3)
  have hm : t.data.toList ∈ pcs 32 wordsL := by
    rw [e, show a ++ ((32 :: t.data.toList ++ [32]) ++ b) = a ++ 32 :: (t.data.toList ++ 32 :: b) from by simp, pcs_app, pcs_hit 32 _ _ hn]
    simp
  have hw : pcs 32 wordsL = [[], [103, 97, 105, 110], [108, 97, 116, 101], [108, 111, 115, 115], [115, 111, 108, 100], [115, 116, 111, 99, 107], [115, 117, 112, 112, 108, 121], []] := by decide
  rw [hw] at hm
  have hne : t.data.toList ≠ [] := fun e => h2 (by rw [size_ba, e]; rfl)
  have key : ∀ x : ByteArray, t.data.toList = x.data.toList → t = x := fun x e => ByteArray.ext (Array.toList_inj.1 e)
  simp only [List.mem_cons, List.not_mem_nil, or_false] at hm
  simp only [accL, List.mem_cons, List.not_mem_nil, or_false]
  rcases hm with h | h | h | h | h | h | h | h
  · exact absurd h hne
  · exact Or.inl (key aGain h)
  · exact Or.inr (Or.inl (key aLate h))
  · exact Or.inr (Or.inr (Or.inl (key aLoss h)))
  · exact Or.inr (Or.inr (Or.inr (Or.inl (key aSold h))))
  · exact Or.inr (Or.inr (Or.inr (Or.inr (Or.inl (key aStock h)))))
  · exact Or.inr (Or.inr (Or.inr (Or.inr (Or.inr (key aSupply h)))))
  · exact absurd h hne
theorem words_acc {t : ByteArray} (h : t ∈ accL) : Lib.contains t.data.toList [32] = false ∧ t.size ≠ 0 ∧ Lib.contains wordsL (32 :: t.data.toList ++ [32]) = true := by
  simp only [accL, List.mem_cons, List.not_mem_nil, or_false] at h
  rcases h with rfl | rfl | rfl | rfl | rfl | rfl <;> decide
/-- What the document's own answer says of a text as an account. -/
def accT (t : ByteArray) : Bool := !(Lib.contains t.data.toList [32]) && (t.size != 0) && Lib.contains wordsL (32 :: t.data.toList ++ [32])
theorem accT_iff (t : ByteArray) : accT t = true ↔ t ∈ accL := by
  unfold accT
  constructor
  · intro h
    simp only [Bool.and_eq_true, Bool.not_eq_true', bne_iff_ne, ne_eq] at h
    exact acc_words t h.1.1 h.1.2 h.2
  · intro h
    obtain ⟨h1, h2, h3⟩ := words_acc h
    rw [h1, h3]
    simpa using h2
/-- The posting that a line's words make. -/
def pOf (t : ByteArray) : Pst := ⟨(bpc 32 t).getD 1 ⟨#[]⟩, (bpc 32 t).getD 3 ⟨#[]⟩, (parsed ((bpc 32 t).getD 0 ⟨#[]⟩).data.toList).getD 0⟩
/-- Whether the document's own answer takes a line. -/
def okL (t : ByteArray) : Prop := (∃ n, parsed ((bpc 32 t).getD 0 ⟨#[]⟩).data.toList = some n) ∧ 1 ≤ (pOf t).amt ∧ (pOf t).deb ∈ accL ∧ (pOf t).cre ∈ accL ∧ (pOf t).deb ≠ (pOf t).cre ∧ pline (pOf t) = t.data.toList ++ [10]
theorem okL_of {t : ByteArray} {p : Pst} (h : Vp p) (e : pline p = t.data.toList ++ [10]) : pOf t = p ∧ okL t := by
  have et : t.data.toList = tline p := by rw [pline_t] at e; exact (List.append_cancel_right e).symm
  have hb := bpc_is 32 t
  rw [et, pcs_tline h] at hb
  have hl : (bpc 32 t).length = 4 := by rw [← List.length_map (f := fun b : ByteArray => b.data.toList), hb]; rfl
  have four : ∀ l : List ByteArray, l.length = 4 → ∃ a b c d, l = [a, b, c, d] := fun l hl => by
    match l, hl with
    | [a, b, c, d], _ => exact ⟨a, b, c, d, rfl⟩
  obtain ⟨x0, x1, x2, x3, hx⟩ := four _ hl
  rw [hx] at hb
  simp only [List.map_cons, List.map_nil, List.cons.injEq, and_true] at hb
  obtain ⟨e0, e1, _, e3⟩ := hb
  have d1 : x1 = p.deb := ByteArray.ext (Array.toList_inj.1 e1)
  have d3 : x3 = p.cre := ByteArray.ext (Array.toList_inj.1 e3)
  have hp : parsed x0.data.toList = some p.amt := by rw [e0]; exact h.parsed
  have hpo : pOf t = p := by
    unfold pOf
    rw [hx]
    obtain ⟨d, c, n⟩ := p
    simp only [List.getD_cons_zero, List.getD_cons_succ] at *
    rw [hp, d1, d3]
    rfl
  refine ⟨hpo, ⟨p.amt, ?_⟩, ?_⟩
  · rw [hx]; exact hp
  · rw [hpo]; exact ⟨h.a1, h.d, h.c, h.ne, e⟩
theorem vp_of {t : ByteArray} (h : okL t) : Vp (pOf t) := by
  obtain ⟨⟨n, hn⟩, h1, h2, h3, h4, _⟩ := h
  obtain ⟨_, _, b2, _, _⟩ := parsed_some hn
  have e : (pOf t).amt = n := by unfold pOf; rw [hn]; rfl
  exact ⟨h1, by rw [e]; exact b2, h2, h3, h4⟩
theorem okL_iff (t : ByteArray) : okL t ↔ ∃ p, Vp p ∧ pline p = t.data.toList ++ [10] :=
  ⟨fun h => ⟨pOf t, vp_of h, h.2.2.2.2.2⟩, fun ⟨_, hp, e⟩ => (okL_of hp e).2⟩
/-- Lines up to the first that is none are told apart. -/
theorem first_bad : ∀ {ps qs : List Pst} {b c : List UInt8} {r s : List (List UInt8)}, (∀ p ∈ ps, Vp p) → (∀ p ∈ qs, Vp p) → (¬ ∃ p, Vp p ∧ pline p = b) → (¬ ∃ p, Vp p ∧ pline p = c) → ps.map pline ++ b :: r = qs.map pline ++ c :: s → ps = qs
  | [], [], _, _, _, _, _, _, _, _, _ => rfl
  | [], q :: qs, b, c, r, s, _, h2, h3, _, h => by
    simp only [List.map_nil, List.nil_append, List.map_cons, List.cons_append, List.cons.injEq] at h
    exact absurd ⟨q, h2 q List.mem_cons_self, h.1.symm⟩ h3
  | p :: ps, [], b, c, r, s, h1, _, _, h4, h => by
    simp only [List.map_nil, List.nil_append, List.map_cons, List.cons_append, List.cons.injEq] at h
    exact absurd ⟨p, h1 p List.mem_cons_self, h.1⟩ h4
  | p :: ps, q :: qs, b, c, r, s, h1, h2, h3, h4, h => by
    simp only [List.map_cons, List.cons_append, List.cons.injEq] at h
    rw [pline_inj (h1 p List.mem_cons_self) (h2 q List.mem_cons_self) h.1, first_bad (fun x hx => h1 x (List.mem_cons_of_mem _ hx)) (fun x hx => h2 x (List.mem_cons_of_mem _ hx)) h3 h4 h.2]
theorem all_good : ∀ {ps qs : List Pst} {c : List UInt8} {s : List (List UInt8)}, (∀ p ∈ ps, Vp p) → (¬ ∃ p, Vp p ∧ pline p = c) → ps.map pline ≠ qs.map pline ++ c :: s
  | ps, [], c, s, h1, h4, h => by
    rcases ps with _ | ⟨p, ps⟩
    · simp at h
    · simp only [List.map_nil, List.nil_append, List.map_cons, List.cons.injEq] at h
      exact h4 ⟨p, h1 p List.mem_cons_self, h.1⟩
  | [], q :: qs, c, s, _, _, h => by simp at h
  | p :: ps, q :: qs, c, s, h1, h4, h => by
    simp only [List.map_cons, List.cons_append, List.cons.injEq] at h
    exact all_good (fun x hx => h1 x (List.mem_cons_of_mem _ hx)) h4 h.2
theorem all_same : ∀ {ps qs : List Pst}, (∀ p ∈ ps, Vp p) → (∀ p ∈ qs, Vp p) → ps.map pline = qs.map pline → ps = qs
  | [], [], _, _, _ => rfl
  | [], _ :: _, _, _, h => by simp at h
  | _ :: _, [], _, _, h => by simp at h
  | p :: ps, q :: qs, h1, h2, h => by
    simp only [List.map_cons, List.cons.injEq] at h
    rw [pline_inj (h1 p List.mem_cons_self) (h2 q List.mem_cons_self) h.1, all_same (fun x hx => h1 x (List.mem_cons_of_mem _ hx)) (fun x hx => h2 x (List.mem_cons_of_mem _ hx)) h.2]
/-- What of a text's parts the document's own answer tells, is told of its lines. -/
theorem ref_lines {s : List UInt8} {L : List (List UInt8)} (h : linesL s = L.map (· ++ [10]) ∨ ∃ M z, L = M ++ [z] ∧ linesL s = M.map (· ++ [10]) ++ [z] ∧ (10 : UInt8) ∉ z) {ps : List Pst} {bad : List UInt8} {rest : List (List UInt8)} (hps : ps.map pline ++ (bad ++ [10]) :: rest = L.map (· ++ [10])) (hb : ¬ ∃ p, Vp p ∧ pline p = bad ++ [10]) :
    ∃ bad' rest', linesL s = ps.map pline ++ bad' :: rest' ∧ ¬ ∃ p, Vp p ∧ pline p = bad' := by
  rcases h with h | ⟨M, z, rfl, h, hz⟩
  · exact ⟨bad ++ [10], rest, by rw [h, hps], hb⟩
  · rw [List.map_append, List.map_singleton] at hps
    rcases List.eq_nil_or_concat rest with rfl | ⟨r', y, rfl⟩
    · have e := List.append_inj' hps rfl
      exact ⟨z, [], by rw [h, e.1], no_nl hz⟩
    · have e : ps.map pline ++ (bad ++ [10]) :: r' = M.map (· ++ [10]) := by
        have h2 : (ps.map pline ++ (bad ++ [10]) :: r') ++ [y] = M.map (· ++ [10]) ++ [z ++ [10]] := by rw [← hps]; simp
        exact (List.append_inj' h2 rfl).1
      exact ⟨bad ++ [10], r' ++ [z], by rw [h, ← e]; simp, hb⟩
end Go.Proofs.YtcfgacdcgljbaaaGreatDoor
