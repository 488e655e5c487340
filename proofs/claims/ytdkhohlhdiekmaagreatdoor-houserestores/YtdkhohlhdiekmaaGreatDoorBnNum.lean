/- Numerals read by strconv.Atoi, and texts parted at a sign, in plain mathematics. No walk. Which events may be, how an event is written, and which one a text is, in plain mathematics. No walk. -/
import Derived.Test.YtdkhohlhdiekmaaGreatDoorBnDay
import Derived.Lib.AtoiAll
import Derived.Lib.SplitLaws
import Derived.Lib.ItoaNum
import Derived.Lib.CountLaws
import Derived.Test.YtdkhohlhdiekmaaGreatDoorBnMon
import Derived.Test.YtdkhohlhdiekmaaGreatDoorBnA
namespace Go.Proofs.YtdkhohlhdiekmaaGreatDoor
/-- Only digits. -/
def Digs (l : List UInt8) : Prop := ∀ c ∈ l, 48 ≤ c.toNat ∧ c.toNat ≤ 57
def dnf (acc : Nat) (l : List UInt8) : Nat := l.foldl (fun a c => a * 10 + (c.toNat - 48)) acc
theorem dnf_ge : ∀ (l : List UInt8) (acc : Nat), acc ≤ dnf acc l
  | [], acc => Nat.le_refl _
  | c :: l, acc => by
    have := dnf_ge l (acc * 10 + (c.toNat - 48))
    show acc ≤ dnf (acc * 10 + (c.toNat - 48)) l
    omega
theorem dnf_dval : ∀ (l : List UInt8) (acc : Nat), Digs l → l.foldl dval1 (acc : Int) = (dnf acc l : Int)
  | [], acc, _ => rfl
  | c :: l, acc, h => by
    have hc := h c List.mem_cons_self
    have e : dval1 (acc : Int) c = ((acc * 10 + (c.toNat - 48) : Nat) : Int) := by unfold dval1; omega
    rw [List.foldl_cons, e, dnf_dval l _ (fun x hx => h x (List.mem_cons_of_mem _ hx))]
    rfl
theorem dparse_digits : ∀ (l : List UInt8) (acc : Nat), Digs l → dnf acc l < 18446744073709551616 → Lib.parseUint10 acc l = .ok (dnf acc l)
  | [], acc, _, _ => rfl
  | c :: l, acc, h, hlt => by
    have hc := h c List.mem_cons_self
    have hge := dnf_ge l (acc * 10 + (c.toNat - 48))
    have e : dnf acc (c :: l) = dnf (acc * 10 + (c.toNat - 48)) l := rfl
    rw [e] at hlt ⊢
    unfold Lib.parseUint10
    rw [if_pos hc, if_neg (by omega), if_neg (by omega)]
    exact dparse_digits l _ (fun x hx => h x (List.mem_cons_of_mem _ hx)) hlt
/-- A numeral is read as its number. -/
theorem atoi_digs (l : List UInt8) (h : Digs l) (hne : l ≠ []) (hu : dval l ≤ 9223372036854775807) : Lib.atoiAll l = .ok (dval l) := by
  have hn : dval l = (dnf 0 l : Int) := dnf_dval l 0 h
  have hp : Lib.parseMag l = .ok (dnf 0 l) := by
    unfold Lib.parseMag; rw [if_neg hne, dparse_digits l 0 h (by omega)]
  rcases l with _ | ⟨c, r⟩
  · exact absurd rfl hne
  · have hc := h c List.mem_cons_self
    unfold Lib.atoiAll
    simp only []
    rw [if_neg (by omega), hp]
    simp only []
    rw [if_neg (by omega), if_neg (by omega), if_neg (by omega), hn]
/-- The first sign's place. -/
theorem index_at (z : UInt8) : ∀ (a b : List UInt8), z ∉ a → Lib.index (a ++ z :: b) [z] = (a.length : Int)
  | [], b, _ => by simp [Lib.index]
  | x :: a, b, h => by
    have hx : ¬ z = x := by intro e; apply h; rw [e]; exact List.mem_cons_self
    have ih := index_at z a b (fun hm => h (List.mem_cons_of_mem _ hm))
    have hp : ([z] : List UInt8).isPrefixOf (x :: (a ++ z :: b)) = false := by simp [List.isPrefixOf, hx]
    rw [List.cons_append, Lib.index, hp, ih]
    have hne : ((a.length : Int) == -1) = false := by simp
    rw [hne]
    simp
theorem index_not (z : UInt8) : ∀ (a : List UInt8), z ∉ a → Lib.index a [z] = -1
  | [], _ => by simp [Lib.index]
  | x :: a, h => by
    have hx : ¬ z = x := by intro e; apply h; rw [e]; exact List.mem_cons_self
    have ih := index_not z a (fun hm => h (List.mem_cons_of_mem _ hm))
    have hp : ([z] : List UInt8).isPrefixOf (x :: a) = false := by simp [List.isPrefixOf, hx]
    rw [Lib.index, hp, ih]
    simp
theorem count_at (z : UInt8) (a b : List UInt8) (h : z ∉ a) : Lib.count (a ++ z :: b) [z] = 1 + Lib.count b [z] := by
  rw [Lib.count_hit (by simp) (index_at z a b h)]
  simp
theorem split_at (z : UInt8) (k : Nat) (a b : List UInt8) (h : z ∉ a) : Lib.splitK [z] 0 (k + 1) (a ++ z :: b) = a :: Lib.splitK [z] 0 k b := by
  rw [Lib.splitK, index_at z a b h]
  have hne : ((a.length : Int) == -1) = false := by simp
  rw [hne]
  simp
/-- Three parts. -/
theorem split_three (z : UInt8) (a b c : List UInt8) (ha : z ∉ a) (hb : z ∉ b) (hc : z ∉ c) :
    Lib.count (a ++ z :: (b ++ z :: c)) [z] = 2 ∧ Lib.splitK [z] 0 2 (a ++ z :: (b ++ z :: c)) = [a, b, c] := by
  constructor
  · rw [count_at z a _ ha, count_at z b _ hb, Lib.count_miss (index_not z c hc)]
  · rw [split_at z 1 a _ ha, split_at z 0 b _ hb]; rfl
theorem piece_le (sep : List UInt8) : ∀ (k : Nat) (s p : List UInt8), p ∈ Lib.splitK sep 0 k s → p.length ≤ s.length
  | 0, s, p, h => by simp [Lib.splitK] at h; rw [h]; exact Nat.le_refl _
  | k + 1, s, p, h => by
    rw [Lib.splitK] at h
    split at h
    · simp at h; rw [h]; exact Nat.le_refl _
    · rcases List.mem_cons.1 h with h | h
      · rw [h, List.length_take]; omega
      · have := piece_le sep k _ p h
        rw [List.length_drop] at this; omega
/-- Numerals. -/
theorem dec_step (n : Nat) (h : 10 ≤ n) : Lib.decDigits n = Lib.decDigits (n / 10) ++ [UInt8.ofNat (48 + n % 10)] := by
  rw [Lib.decDigits, dif_neg (by omega)]
theorem dec_one (n : Nat) (h : n < 10) : Lib.decDigits n = [UInt8.ofNat (48 + n)] := by
  rw [Lib.decDigits, dif_pos h]
theorem itoa_nat (n : Nat) : Lib.itoa (n : Int) = Lib.decDigits n := by unfold Lib.itoa; rw [if_neg (by omega)]; rfl
theorem dec_four (n : Nat) (h : 1000 ≤ n) (h' : n < 10000) : Lib.decDigits n = bts (tw ((n : Int) / 100) ++ tw ((n : Int) % 100)) := by
  rw [dec_step n (by omega), dec_step (n / 10) (by omega), dec_step (n / 10 / 10) (by omega), dec_one (n / 10 / 10 / 10) (by omega)]
  simp only [bts, tw, List.map, List.cons_append, List.nil_append]
  congr 1
  · congr 1; omega
  congr 1
  · congr 1; omega
  congr 1
  · congr 1; omega
  congr 1
  · congr 1; omega
theorem dec_hundred (n : Nat) (h : n < 100) : Lib.decDigits (100 + n) = 49 :: bts (tw (n : Int)) := by
  rw [dec_step (100 + n) (by omega), dec_step ((100 + n) / 10) (by omega), dec_one ((100 + n) / 10 / 10) (by omega)]
  simp only [bts, tw, List.map, List.cons_append, List.nil_append]
  have e : (100 + n) / 10 / 10 = 1 := by omega
  rw [e]
  congr 1
  congr 1
  · congr 1; omega
  congr 1
  · congr 1; omega
theorem tw_digs (n : Int) (h : 0 ≤ n) (h' : n < 100) : Digs (bts (tw n)) := by
  have e1 := byte_val (48 + n / 10) (by omega) (by omega)
  have e2 := byte_val (48 + n % 10) (by omega) (by omega)
  intro c hc
  simp only [bts, tw, List.map, List.mem_cons, List.not_mem_nil, or_false] at hc
  rcases hc with rfl | rfl
  · omega
  · omega
theorem digs_append {a b : List UInt8} (ha : Digs a) (hb : Digs b) : Digs (a ++ b) := fun c hc => by
  rcases List.mem_append.1 hc with h | h
  · exact ha c h
  · exact hb c h
theorem digs_not {a : List UInt8} (h : Digs a) (z : UInt8) (hz : z.toNat < 48) : z ∉ a := fun hm => by
  have := h z hm; omega
theorem bts_app (a b : List Int) : bts (a ++ b) = bts a ++ bts b := by simp [bts]
theorem bts_con (a : Int) (b : List Int) : bts (a :: b) = UInt8.ofNat a.toNat :: bts b := rfl
theorem DT_parts (y m d : Int) : bts (dtx y m d) = bts (tw (y / 100) ++ tw (y % 100)) ++ 45 :: (bts (tw m) ++ 45 :: bts (tw d)) := by
  unfold dtx
  simp only [bts_app, bts_con, List.append_assoc]
  rfl
end Go.Proofs.YtdkhohlhdiekmaaGreatDoor
namespace Go.Proofs.YtdkhohlhdiekmaaGreatDoor
def wordOf (k : Int) : List UInt8 :=
  if k = 1 then [105, 110] else if k = 2 then [99, 104, 97, 114, 103, 101] else if k = 3 then [111, 117, 116] else if k = 4 then [99, 111, 117, 110, 116] else []
/-- What is written behind the item. -/
def nums (k q p o : Int) : List UInt8 :=
  if k = 1 then Lib.itoa q ++ 32 :: ([97, 116] ++ 32 :: byt (amt p)) else if k = 2 then byt (amt p) ++ 32 :: ([102, 111, 114] ++ 32 :: Lib.itoa o) else Lib.itoa q
/-- An event's text. -/
def ET (e : Ev) : List UInt8 := bts (DT e.day) ++ 32 :: (wordOf e.kind ++ 32 :: (e.item.data.toList ++ 32 :: nums e.kind e.qty e.price e.ofI))
/-- The kind of a word. -/
def kindOf (l : List UInt8) : Int :=
  if l = [105, 110] then 1 else if l = [99, 104, 97, 114, 103, 101] then 2 else if l = [111, 117, 116] then 3 else if l = [99, 111, 117, 110, 116] then 4 else 0
def numOf (l : List UInt8) : Int := match Lib.atoiAll l with
  | .ok v => v
  | _ => -1
def amtOf (l : List UInt8) : Int := (parsed l).getD (-1)
def dayOf (l : List UInt8) : Int := (dparsed l).getD (-1)
def eb (l : List UInt8) : ByteArray := ⟨l.toArray⟩
/-- The event that the parts of a text make. -/
def pread (ps : List (List UInt8)) : Ev :=
  { id := 0, day := dayOf (ps.getD 0 []), kind := kindOf (ps.getD 1 []), item := eb (ps.getD 2 []),
    qty := if kindOf (ps.getD 1 []) = 2 then 0 else numOf (ps.getD 3 []),
    price := if kindOf (ps.getD 1 []) = 1 then amtOf (ps.getD 5 []) else if kindOf (ps.getD 1 []) = 2 then amtOf (ps.getD 3 []) else 0,
    ofI := if kindOf (ps.getD 1 []) = 2 then numOf (ps.getD 5 []) else 0 }
def ps (l : List UInt8) : List (List UInt8) := Lib.splitK [32] 0 (Lib.count l [32]) l
theorem ps_at (a b : List UInt8) (h : 32 ∉ a) : ps (a ++ 32 :: b) = a :: ps b := by
  unfold ps
  rw [count_at 32 a b h, Nat.add_comm, split_at 32 _ a b h]
theorem ps_end (a : List UInt8) (h : 32 ∉ a) : ps a = [a] := by
  unfold ps
  rw [Lib.count_miss (index_not 32 a h)]; rfl
theorem dec_all : ∀ (m n : Nat), n ≤ m → Digs (Lib.decDigits n) ∧ dval (Lib.decDigits n) = (n : Int) ∧ Lib.decDigits n ≠ []
  | m, n, h => by
    by_cases hn : n < 10
    · rw [dec_one n hn]
      have e : (UInt8.ofNat (48 + n)).toNat = 48 + n := by rw [UInt8.toNat_ofNat']; omega
      refine ⟨?_, ?_, by simp⟩
      · intro c hc
        rw [List.mem_singleton] at hc
        subst hc; omega
      · simp only [dval, List.foldl, dval1]; rw [e]; omega
    · match m, h with
      | 0, h => omega
      | m + 1, h =>
        obtain ⟨a, b, _⟩ := dec_all m (n / 10) (by omega)
        have e : (UInt8.ofNat (48 + n % 10)).toNat = 48 + n % 10 := by rw [UInt8.toNat_ofNat']; omega
        rw [dec_step n (by omega)]
        refine ⟨digs_append a ?_, ?_, by simp⟩
        · intro c hc
          rw [List.mem_singleton] at hc
          subst hc; omega
        · rw [dval_snoc, b]; unfold dval1; rw [e]; omega
theorem itoa_pos (n : Int) (h : 0 ≤ n) : Lib.itoa n = Lib.decDigits n.toNat := by
  obtain ⟨k, rfl⟩ : ∃ k : Nat, n = (k : Int) := ⟨n.toNat, by omega⟩
  rw [itoa_nat]; rfl
theorem itoa_digs (n : Int) (h : 0 ≤ n) : Digs (Lib.itoa n) := by rw [itoa_pos n h]; exact (dec_all _ _ (Nat.le_refl _)).1
theorem atoi_itoa (n : Int) (h : 0 ≤ n) (h' : n ≤ 9223372036854775807) : Lib.atoiAll (Lib.itoa n) = .ok n := by
  obtain ⟨a, b, c⟩ := dec_all _ n.toNat (Nat.le_refl _)
  have e : ((n.toNat : Nat) : Int) = n := by omega
  rw [e] at b
  rw [itoa_pos n h, atoi_digs _ a c (by rw [b]; exact h'), b]
theorem numOf_itoa (n : Int) (h : 0 ≤ n) (h' : n ≤ 9223372036854775807) : numOf (Lib.itoa n) = n := by
  unfold numOf; rw [atoi_itoa n h h']
theorem itoa_nb (n : Int) (h : 0 ≤ n) : 32 ∉ Lib.itoa n := digs_not (itoa_digs n h) 32 (by decide)
theorem dg_digs : ∀ (k q : Nat), Digs (byt (dg k (q : Int)))
  | 0, q => by intro c hc; simp [dg, byt] at hc
  | k + 1, q => by
    have e : 48 + dv k (q : Int) % 10 = 48 + ((q / 10 ^ k % 10 : Nat) : Int) := by rw [dv_nat]; omega
    have hd := dig_nat (q / 10 ^ k % 10) (Nat.mod_lt _ (by omega))
    intro c hc
    simp only [dg] at hc
    rw [byt_cons, e] at hc
    rcases List.mem_cons.1 hc with rfl | hc
    · omega
    · exact dg_digs k q c hc
theorem amt_nb (n : Int) (h : 0 ≤ n) : 32 ∉ byt (amt n) := by
  unfold amt amtSize
  rw [if_neg (by omega), List.nil_append, byt_append, byt_cons]
  intro hm
  rcases List.mem_append.1 hm with hm | hm
  · exact digs_not (dg_digs _ _) 32 (by decide) hm
  · rcases List.mem_cons.1 hm with hm | hm
    · exact absurd hm (by decide)
    · exact digs_not (dg_digs _ _) 32 (by decide) hm
theorem DT_nb (n : Int) (h0 : 0 ≤ n) (h1 : n ≤ 99999) : 32 ∉ bts (DT n) := by
  have hk := dK_le h0 h1
  have hy : 1900 ≤ ky (dK n) ∧ ky (dK n) ≤ 2200 := ⟨ky_ge _, by unfold ky; omega⟩
  have hm := km_bd (dK n)
  have hd := dD_bd h0
  have e : bts (DT n) = bts (tw (ky (dK n) / 100) ++ tw (ky (dK n) % 100)) ++ 45 :: (bts (tw (km (dK n))) ++ 45 :: bts (tw (dD n))) := DT_parts _ _ _
  have dy : Digs (bts (tw (ky (dK n) / 100) ++ tw (ky (dK n) % 100))) := by
    rw [bts_app]; exact digs_append (tw_digs _ (by omega) (by omega)) (tw_digs _ (by omega) (by omega))
  have dm := tw_digs (km (dK n)) (by omega) (by omega)
  have dd := tw_digs (dD n) (by omega) (by omega)
  rw [e]
  intro hh
  rcases List.mem_append.1 hh with hh | hh
  · exact digs_not dy 32 (by decide) hh
  rcases List.mem_cons.1 hh with hh | hh
  · exact absurd hh (by decide)
  rcases List.mem_append.1 hh with hh | hh
  · exact digs_not dm 32 (by decide) hh
  rcases List.mem_cons.1 hh with hh | hh
  · exact absurd hh (by decide)
  · exact digs_not dd 32 (by decide) hh
theorem name_nb {l : List UInt8} (h : isName l) : 32 ∉ l := by
  intro hm
  have h32 : (32 : UInt8).toNat = 32 := rfl
  rcases h.2.2 32 hm with h | h
  · have := h.1; omega
  · have := h.1; omega
theorem word_nb (k : Int) : 32 ∉ wordOf k := by
  unfold wordOf
  split
  · decide
  split
  · decide
  split
  · decide
  split
  · decide
  · decide
theorem ps_ET (e : Ev) (h : Rt e) : ps (ET e) = bts (DT e.day) :: wordOf e.kind :: e.item.data.toList :: ps (nums e.kind e.qty e.price e.ofI) := by
  unfold ET
  rw [ps_at _ _ (DT_nb _ h.2.1.1 h.2.1.2), ps_at _ _ (word_nb _), ps_at _ _ (name_nb h.1)]
theorem ps_nums {k q p o : Int} (h : rtK k q p o) : ps (nums k q p o) = if k = 1 then [Lib.itoa q, [97, 116], byt (amt p)] else if k = 2 then [byt (amt p), [102, 111, 114], Lib.itoa o] else [Lib.itoa q] := by
  unfold nums
  rcases h with ⟨rfl, ⟨a, b⟩, ⟨c, d⟩, rfl⟩ | ⟨rfl, rfl, ⟨c, d⟩, ⟨f, g⟩⟩ | ⟨rfl, ⟨a, b⟩, rfl, rfl⟩ | ⟨rfl, ⟨a, b⟩, rfl, rfl⟩
  · rw [if_pos rfl, if_pos rfl, ps_at _ _ (itoa_nb _ (by omega)), ps_at _ _ (by decide), ps_end _ (amt_nb _ c)]
  · rw [if_neg (by decide), if_pos rfl, if_neg (by decide), if_pos rfl, ps_at _ _ (amt_nb _ (by omega)), ps_at _ _ (by decide), ps_end _ (itoa_nb _ (by omega))]
  · rw [if_neg (by decide), if_neg (by decide), if_neg (by decide), if_neg (by decide), ps_end _ (itoa_nb _ (by omega))]
  · rw [if_neg (by decide), if_neg (by decide), if_neg (by decide), if_neg (by decide), ps_end _ (itoa_nb _ (by omega))]
theorem kindOf_word {k : Int} (h : k = 1 ∨ k = 2 ∨ k = 3 ∨ k = 4) : kindOf (wordOf k) = k := by
  rcases h with rfl | rfl | rfl | rfl <;> rfl
theorem rtK_kind {k q p o : Int} (h : rtK k q p o) : k = 1 ∨ k = 2 ∨ k = 3 ∨ k = 4 := by
  rcases h with ⟨rfl, _⟩ | ⟨rfl, _⟩ | ⟨rfl, _⟩ | ⟨rfl, _⟩ <;> simp
theorem eb_data (b : ByteArray) : eb b.data.toList = b := by cases b; rfl
/-- What an event is written as is read as that event, its number aside. -/
theorem pread_ET (e : Ev) (h : Rt e) : pread (ps (ET e)) = { e with id := 0 } := by
  rw [ps_ET e h, ps_nums h.2.2]
  obtain ⟨hn, ⟨d0, d1⟩, hk⟩ := h
  obtain ⟨id, item, kind, qty, price, ofI, day⟩ := e
  simp only at hn d0 d1 hk ⊢
  have hd : dayOf (bts (DT day)) = day := by unfold dayOf; rw [dparsed_DT d0 d1]; rfl
  have hw := kindOf_word (rtK_kind hk)
  have hp : 0 ≤ price → price ≤ 100000000000 → amtOf (byt (amt price)) = price := by
    intro a b; unfold amtOf; rw [parsed_amt price (by omega) (by omega)]; rfl
  rcases hk with ⟨rfl, ⟨a, b⟩, ⟨c, d⟩, rfl⟩ | ⟨rfl, rfl, ⟨c, d⟩, ⟨f, g⟩⟩ | ⟨rfl, ⟨a, b⟩, rfl, rfl⟩ | ⟨rfl, ⟨a, b⟩, rfl, rfl⟩
  · simp [pread, hd, hw, eb_data, numOf_itoa qty (by omega) (by omega), hp c (by omega)]
  · simp [pread, hd, hw, eb_data, numOf_itoa ofI (by omega) (by omega), hp (by omega) (by omega)]
  · simp [pread, hd, hw, eb_data, numOf_itoa qty (by omega) (by omega)]
  · simp [pread, hd, hw, eb_data, numOf_itoa qty (by omega) (by omega)]
/-- The event that a text is. -/
def Reads (l : List UInt8) (e : Ev) : Prop := Rt e ∧ e.id = 0 ∧ ET e = l
theorem reads_pread {l : List UInt8} {e : Ev} (h : Reads l e) : pread (ps l) = e := by
  obtain ⟨h1, h2, rfl⟩ := h
  rw [pread_ET e h1]
  obtain ⟨id, item, kind, qty, price, ofI, day⟩ := e
  simp only at h2
  rw [h2]
theorem reads_or (l : List UInt8) : (∃ e, Reads l e) ∨ ∀ e, ¬ Reads l e := by
  rcases Classical.em (∃ e, Reads l e) with h | h
  · exact .inl h
  · exact .inr fun e he => h ⟨e, he⟩
end Go.Proofs.YtdkhohlhdiekmaaGreatDoor
