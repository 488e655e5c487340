/- What an event's line puts or takes, in plain mathematics. No walk. Maps of texts to numbers. Postings and balances, in plain mathematics. No walk. Balances together are nothing. What the stock account has is the value of all that is left, in plain mathematics. No walk. A walk through a result's map, item by item. -/
import Derived.Test.YtppamojkhkdfpaaGreatDoorBnN
import Derived.Test.YtppamojkhkdfpaaGreatDoorBnA
import Derived.Sort.KeysCollected
import Derived.Test.YtppamojkhkdfpaaGreatDoorBnM
import Derived.Test.YtppamojkhkdfpaaGreatDoorCoRun
namespace Go.Proofs.YtppamojkhkdfpaaGreatDoor
/-- What an event's line puts, or takes. -/
def ctr (e : Ev) (y : Lin) : Int := if e.kind = 1 ∨ e.kind = 2 then y.val else if e.kind = 3 then -y.val else if y.gain then y.val else -y.val
theorem doE_val {k : Nat} {s : Stk} {e : Ev} (h : StkOK k s) (hr : rtK e.kind e.qty e.price e.ofI) :
    sumV (doE s e).1.ys = sumV s.ys + ctr e (doE s e).2 ∧ (doE s e).2.id = e.id ∧ (doE s e).2.val ≤ (k + 1) * 100000000000 ∧ (0 < (doE s e).2.short → (doE s e).1.ys = []) := by
  have hn := sum_nonneg h.ok
  have hv := h.v
  have hq := h.q
  have hp := h.p
  unfold doE ctr
  rcases hr with ⟨e1, a, b, c⟩ | ⟨e1, a, b, c⟩ | ⟨e1, a, b, c⟩ | ⟨e1, a, b, c⟩
  · have m := mul_bound (q := e.qty) (p := e.price) (by omega) a.2 b.1 b.2
    rw [if_pos e1, if_pos (Or.inl e1)]
    refine ⟨?_, rfl, by simp only; omega, fun x => absurd x (Int.lt_irrefl _)⟩
    rw [sumV_append]; simp only [sumV]; omega
  · rw [if_neg (by omega), if_pos e1, if_pos (Or.inr e1)]
    have cs := chg_sum e.ofI e.price s.ys
    split
    · rename_i hh
      rw [if_pos hh] at cs
      exact ⟨cs.2.1, rfl, by simp only; omega, fun x => absurd x (Int.lt_irrefl _)⟩
    · refine ⟨by simp only; omega, rfl, by simp only; omega, fun x => absurd x (Int.lt_irrefl _)⟩
  · rw [if_neg (by omega), if_neg (by omega), if_pos e1, if_neg (by omega), if_pos e1]
    have t := tk_took s.ys e.qty h.ok (by omega)
    have tv := t.val
    have tn := sum_nonneg t.ok
    refine ⟨by simp only; omega, rfl, by simp only; omega, fun x => ?_⟩
    simp only at x ⊢
    rcases Int.lt_or_le (sumQ s.ys) e.qty with c | c
    · exact t.gone (by omega)
    · have := (t.few c).2; omega
  · have n1 : ¬ e.kind = 1 := by omega
    have n2 : ¬ e.kind = 2 := by omega
    have n3 : ¬ e.kind = 3 := by omega
    have n4 : ¬ (e.kind = 1 ∨ e.kind = 2) := by omega
    rw [if_neg n4, if_neg n3]
    by_cases hlt : sumQ s.ys < e.qty
    · have m := mul_bound (q := e.qty - sumQ s.ys) (p := s.price) (by omega) (by omega) hp.1 hp.2
      simp only [n1, n2, n3, hlt, if_false, if_true]
      refine ⟨?_, trivial, by omega, fun x => absurd x (Int.lt_irrefl _)⟩
      rw [sumV_append]; simp only [sumV]; omega
    · have t := tk_took s.ys (sumQ s.ys - e.qty) h.ok (by omega)
      have tv := t.val
      have tn := sum_nonneg t.ok
      simp only [n1, n2, n3, hlt, if_false, Bool.false_eq_true]
      exact ⟨by omega, trivial, by omega, fun x => absurd x (Int.lt_irrefl _)⟩
def csum : List Ev → List Lin → Int
  | e :: es, y :: ys => ctr e y + csum es ys
  | _, _ => 0
end Go.Proofs.YtppamojkhkdfpaaGreatDoor
namespace Go.Proofs.YtppamojkhkdfpaaGreatDoor
open Go.RowKit Go.Maps
theorem zero_intT (w : World) : (zeroValue 3).run Tryz.prog w = .ok (.int .i64 0) w := by kernel_rfl
/-- A map of texts to numbers: which keys it has, and what it tells of each. -/
structure IMap (W : World) (mb n : Nat) (D : DataW Value) (f : ByteArray → Int) (dom : ByteArray → Prop) : Prop where
  map : W.ownsMap Tryz.prog 9 heldE mb n D
  at_ : ∀ x, D.atKey (keyB x) (.held (.int .i64 0)) = .held (.int .i64 (f x))
  has_ : ∀ x, has D (keyB x) = true ↔ dom x
section
variable {W w' : World} {mb n : Nat} {D : DataW Value} {f : ByteArray → Int} {dom : ByteArray → Prop}
theorem IMap.same (h : IMap W mb n D f dom) (e : w'.heap[mb]? = W.heap[mb]?) : IMap w' mb n D f dom := ⟨map_same h.map e, h.at_, h.has_⟩
theorem IMap.below (h : IMap W mb n D f dom) (hb : Below W.heap.size W w') : IMap w' mb n D f dom := h.same (hb.block _ h.map.lt)
theorem IMap.lt (h : IMap W mb n D f dom) : mb < W.heap.size := h.map.lt
theorem imap_new (W : World) : IMap (W.alloc (.map #[] 0)) W.heap.size 0 (.map []) (fun _ => 0) (fun _ => False) :=
  ⟨World.ownsMap_made W Tryz.prog 9 heldE, fun _ => rfl, fun x => by simp [has_eq]⟩
theorem IMap.look (h : IMap W mb n D f dom) (x : ByteArray) (hx : x.size ≤ maxLen) : (Instr.lookup 158 (.map (some mb)) (.string x) false).run Tryz.prog W = .ok (.int .i64 (f x)) W := by
  obtain ⟨v, ps, h1, h2⟩ := h.map.lookup law_strT Tryz.underlying158 (zero_intT W) (zd := .held (.int .i64 0)) (zp := []) rfl (key_str x hx)
  have h3 := heldE_inv h2
  rw [h.at_ x] at h3
  rw [h1, ← held_inj h3]
theorem IMap.lookOk (h : IMap W mb n D f dom) (x : ByteArray) (hx : x.size ≤ maxLen) (hd : ¬ dom x) : (Instr.lookup 158 (.map (some mb)) (.string x) true).run Tryz.prog W = .ok (.tuple #[.int .i64 (f x), .bool false]) W := by
  obtain ⟨v, ps, h1, h2⟩ := h.map.look_ok law_strT Tryz.underlying158 (zero_intT W) (zd := .held (.int .i64 0)) (zp := []) rfl (key_str x hx)
  have h3 := heldE_inv h2
  rw [h.at_ x] at h3
  have h4 : has D (keyB x) = false := by
    cases e : has D (keyB x)
    · rfl
    · exact absurd ((h.has_ x).1 e) hd
  rw [h4] at h1
  rw [h1, ← held_inj h3]
theorem IMap.put (h : IMap W mb n D f dom) {x : ByteArray} {k : Int} (hm : w'.ownsMap Tryz.prog 9 heldE mb (n + 1) (D.put (keyB x) (.held (.int .i64 k)))) :
    IMap w' mb (n + 1) (D.put (keyB x) (.held (.int .i64 k))) (fun z => if z = x then k else f z) (fun z => z = x ∨ dom z) := by
  have isM : IsMap D := (h.map.canon law_strT).imp fun es ⟨e, _⟩ => e
  refine ⟨hm, fun z => ?_, fun z => ?_⟩
  · by_cases e : z = x
    · subst e; rw [if_pos rfl, atKey_put_same isM (keyB_key z)]
    · rw [if_neg e, atKey_put_other (fun c => e (keyB_inj c)), h.at_]
  · by_cases e : z = x
    · subst e; simp [has_put_same isM (keyB_key z)]
    · rw [has_put_other (fun c => e (keyB_inj c)), h.has_]; simp [e]
theorem str_keys (h : W.ownsMap Tryz.prog 9 heldE mb n D) : (strKeys D).Nodup ∧ ∀ x, x ∈ strKeys D ↔ has D (.string x) = true := by
  obtain ⟨es, hD, hpw, _⟩ := h.entries law_strT
  obtain ⟨es', hD', hko⟩ := h.keysOf
  obtain rfl : es = es' := by rw [hD] at hD'; simpa using hD'
  subst hD
  have hk : ∀ p ∈ es, ∃ x, p.1 = .string x := fun p hp => by
    obtain ⟨v, hv⟩ := hko p hp
    obtain ⟨x, _, hx, _⟩ := Maps.keyOf_str Tryz.underlying9 hv
    exact ⟨x, hx⟩
  constructor
  · show (es.map fun p => strOf p.1).Nodup
    refine List.pairwise_map.2 (hpw.imp_of_mem fun {p q} hp' hq' hne e => hne ?_)
    obtain ⟨a, ha⟩ := hk p hp'
    obtain ⟨b, hb⟩ := hk q hq'
    rw [ha, hb] at e ⊢
    exact congrArg _ e
  · intro x
    rw [has_eq, List.any_eq_true]
    show x ∈ es.map (fun p => strOf p.1) ↔ _
    rw [List.mem_map]
    constructor
    · rintro ⟨p, hp', rfl⟩
      obtain ⟨a, ha⟩ := hk p hp'
      exact ⟨p, hp', by rw [ha]; simp [Lit.sameKey, strOf]⟩
    · rintro ⟨p, hp', hs⟩
      obtain ⟨a, ha⟩ := hk p hp'
      rw [ha] at hs
      exact ⟨p, hp', by rw [ha]; simpa [Lit.sameKey, strOf] using hs⟩
/-- A list of bytes as a text. -/
def baOf (l : List UInt8) : ByteArray := ⟨l.toArray⟩
theorem baOf_data (l : List UInt8) : (baOf l).data.toList = l := rfl
theorem baOf_of (x : ByteArray) : baOf x.data.toList = x := by cases x; rfl
theorem baOf_inj {a b : List UInt8} (h : baOf a = baOf b) : a = b := by rw [← baOf_data a, h, baOf_data]
/-- What slices.Sorted(maps.Keys(m)) hands back. -/
structure Keys (dom : ByteArray → Prop) (ks : List ByteArray) : Prop where
  nodup : ks.Nodup
  mem : ∀ x, x ∈ ks ↔ dom x
  sorted : ks.Pairwise fun a b => a.data.toList ≤ b.data.toList
theorem keys_of (h : IMap W mb n D f dom) {ss : List (List UInt8)} (hs : ss.Perm (strKeys D)) : ∃ ks : List ByteArray, Keys dom ks ∧ ss.mergeSort (fun x y => decide (x ≤ y)) = ks.map (fun x => x.data.toList) := by
  obtain ⟨hn, hm⟩ := str_keys h.map
  have tr : ∀ a b c : List UInt8, leB a b = true → leB b c = true → leB a c = true := fun a b c h1 h2 => by simp only [leB, decide_eq_true_eq] at *; exact List.le_trans h1 h2
  have to' : ∀ a b : List UInt8, (leB a b || leB b a) = true := fun a b => by simp only [leB, Bool.or_eq_true, decide_eq_true_eq]; exact List.le_total a b
  have hp : (ss.mergeSort leB).Perm (strKeys D) := (List.mergeSort_perm ss leB).trans hs
  have hpw := List.pairwise_mergeSort tr to' ss
  refine ⟨(ss.mergeSort leB).map baOf, ⟨?_, fun x => ?_, ?_⟩, ?_⟩
  · refine List.pairwise_map.2 ((hp.nodup_iff.2 hn).imp fun hne e => hne (baOf_inj e))
  · rw [← h.has_ x, List.mem_map]
    show _ ↔ has D (.string x.data.toList) = true
    rw [← hm, ← hp.mem_iff]
    constructor
    · rintro ⟨l, hl, rfl⟩; exact hl
    · intro hx; exact ⟨_, hx, baOf_of x⟩
  · refine List.pairwise_map.2 (hpw.imp fun {a b} hab => ?_)
    simpa [leB, baOf_data] using hab
  · rw [List.map_map]
    have e : ((fun x : ByteArray => x.data.toList) ∘ baOf) = id := by funext l; rfl
    rw [e, List.map_id]
end
end Go.Proofs.YtppamojkhkdfpaaGreatDoor
namespace Go.Proofs.YtppamojkhkdfpaaGreatDoor
open Go.RowKit
/-- A posting. -/
structure Pst where
  deb : ByteArray
  cre : ByteArray
  amt : Int
  deriving Inhabited
def pstC (p : Pst) : List Value := [.string p.deb, .string p.cre, .int .i64 p.amt]
def pstV (p : Pst) : Value := .agg #[.string p.deb, .string p.cre, .int .i64 p.amt]
theorem pstC_len (p : Pst) : (pstC p).length = 3 := rfl
theorem pstC_flat (ps : List Pst) : (ps.flatMap pstC).length = ps.length * 3 := by
  induction ps with
  | nil => rfl
  | cons p ps ih => rw [List.flatMap_cons, List.length_append, ih, pstC_len, List.length_cons]; omega
def aGain : ByteArray := ⟨#[103, 97, 105, 110]⟩
def aLate : ByteArray := ⟨#[108, 97, 116, 101]⟩
def aLoss : ByteArray := ⟨#[108, 111, 115, 115]⟩
def aSold : ByteArray := ⟨#[115, 111, 108, 100]⟩
def aStock : ByteArray := ⟨#[115, 116, 111, 99, 107]⟩
def aSupply : ByteArray := ⟨#[115, 117, 112, 112, 108, 121]⟩
/-- A figure's posting, if it has one. -/
def post1 (p : Pst) : List Pst := if 0 < p.amt then [p] else if p.amt < 0 then [⟨p.cre, p.deb, wrap64 (-p.amt)⟩] else []
/-- Figures as they are posted. -/
def fives (f : Fig) : List Pst := [⟨aStock, aSupply, f.inn⟩, ⟨aSold, aStock, f.out⟩, ⟨aLoss, aStock, f.loss⟩, ⟨aStock, aGain, f.gain⟩, ⟨aLate, aSupply, f.late⟩]
def postL (f : Fig) : List Pst := (fives f).flatMap post1
theorem post1_len (p : Pst) : (post1 p).length ≤ 1 := by unfold post1; split <;> (try split) <;> simp
theorem postf_len : ∀ l : List Pst, (l.flatMap post1).length ≤ l.length
  | [] => Nat.le_refl _
  | p :: l => by
    rw [List.flatMap_cons, List.length_append, List.length_cons]
    have := post1_len p
    have := postf_len l
    omega
theorem postL_len (f : Fig) : (postL f).length ≤ 5 := postf_len (fives f)
/-- What a posting does to an account's balance. -/
def bal1 (k : ByteArray) (n : Int) (p : Pst) : Int :=
  let a := if p.deb = k then wrap64 (n + p.amt) else n
  if p.cre = k then wrap64 (a - p.amt) else a
def bal (k : ByteArray) (n : Int) (ps : List Pst) : Int := ps.foldl (bal1 k) n
/-- The same, as a number that may be any. -/
def sig (k : ByteArray) (p : Pst) : Int := (if p.deb = k then p.amt else 0) - (if p.cre = k then p.amt else 0)
def sigs (k : ByteArray) : List Pst → Int
  | [] => 0
  | p :: ps => sig k p + sigs k ps
theorem sigs_append (k : ByteArray) : ∀ a b : List Pst, sigs k (a ++ b) = sigs k a + sigs k b
  | [], b => by simp [sigs]
  | p :: a, b => by simp only [List.cons_append, sigs, sigs_append k a b]; omega
theorem wrap_add (a b : Int) : wrap64 (wrap64 a + b) = wrap64 (a + b) := by unfold wrap64; omega
theorem wrap_add' (a b : Int) : wrap64 (a + wrap64 b) = wrap64 (a + b) := by unfold wrap64; omega
theorem wrap_sub (a b : Int) : wrap64 (wrap64 a - b) = wrap64 (a - b) := by unfold wrap64; omega
theorem wrap_wrap (a : Int) : wrap64 (wrap64 a) = wrap64 a := by unfold wrap64; omega
theorem wrap_same {a : Int} (h : I64 a) : wrap64 a = a := by unfold I64 at h; unfold wrap64; omega
theorem bal1_wrap (k : ByteArray) (n : Int) (p : Pst) : bal1 k (wrap64 n) p = wrap64 (n + sig k p) := by
  unfold bal1 sig
  by_cases h1 : p.deb = k <;> by_cases h2 : p.cre = k <;> simp only [h1, h2, if_true, if_false]
  · rw [wrap_add, wrap_sub]; congr 1; omega
  · rw [wrap_add]; congr 1; omega
  · rw [wrap_sub]; congr 1; omega
  · simp
theorem bal_wrap (k : ByteArray) : ∀ (ps : List Pst) (n : Int), bal k (wrap64 n) ps = wrap64 (n + sigs k ps)
  | [], n => by simp [bal, sigs]
  | p :: ps, n => by
    show bal k (bal1 k (wrap64 n) p) ps = _
    rw [bal1_wrap, bal_wrap k ps]
    simp only [sigs]
    congr 1; omega
theorem bal_zero (k : ByteArray) (ps : List Pst) : bal k 0 ps = wrap64 (sigs k ps) := by
  have := bal_wrap k ps 0
  simpa [wrap64] using this
/-- What an account has of figures. -/
def lin (k : ByteArray) (f : Fig) : Int :=
  if k = aStock then f.inn - f.out - f.loss + f.gain
  else if k = aSupply then -f.inn - f.late
  else if k = aSold then f.out
  else if k = aLoss then f.loss
  else if k = aGain then -f.gain
  else if k = aLate then f.late
  else 0
theorem sigs_post1 (k : ByteArray) (p : Pst) : wrap64 (sigs k (post1 p)) = wrap64 (sig k p) := by
  unfold post1
  by_cases h1 : 0 < p.amt
  · rw [if_pos h1]; simp [sigs]
  · rw [if_neg h1]
    by_cases h2 : p.amt < 0
    · rw [if_pos h2]
      simp only [sigs, sig]
      by_cases c1 : p.cre = k <;> by_cases c2 : p.deb = k <;> simp only [c1, c2, if_true, if_false] <;> unfold wrap64 <;> omega
    · rw [if_neg h2]
      have : p.amt = 0 := by omega
      simp [sigs, sig, this]
theorem sigs_flat (k : ByteArray) : ∀ l : List Pst, wrap64 (sigs k (l.flatMap post1)) = wrap64 (sigs k l)
  | [] => rfl
  | p :: l => by
    rw [List.flatMap_cons, sigs_append]
    have h1 := sigs_post1 k p
    have h2 := sigs_flat k l
    simp only [sigs]
    rw [← wrap_add, h1, wrap_add, ← wrap_add', h2, wrap_add']
theorem ne_acc : aStock ≠ aSupply ∧ aStock ≠ aSold ∧ aStock ≠ aLoss ∧ aStock ≠ aGain ∧ aStock ≠ aLate ∧ aSupply ≠ aSold ∧ aSupply ≠ aLoss ∧ aSupply ≠ aGain ∧ aSupply ≠ aLate ∧ aSold ≠ aLoss ∧ aSold ≠ aGain ∧ aSold ≠ aLate ∧ aLoss ≠ aGain ∧ aLoss ≠ aLate ∧ aGain ≠ aLate := by decide
theorem sigs_fives (k : ByteArray) (f : Fig) : sigs k (fives f) = lin k f := by
  obtain ⟨h1, h2, h3, h4, h5, h6, h7, h8, h9, h10, h11, h12, h13, h14, h15⟩ := ne_acc
  simp only [fives, sigs, sig, lin]
  by_cases e1 : k = aStock
  · subst e1; simp [h1.symm, h2.symm, h3.symm, h4.symm, h5.symm]; omega
  · rw [if_neg e1]
    have e1' : ¬ aStock = k := fun e => e1 e.symm
    by_cases e2 : k = aSupply
    · subst e2; simp [h1, h6.symm, h7.symm, h8.symm, h9.symm]; omega
    · rw [if_neg e2]
      have e2' : ¬ aSupply = k := fun e => e2 e.symm
      by_cases e3 : k = aSold
      · subst e3; simp [h2, h6, h10.symm, h11.symm, h12.symm]
      · rw [if_neg e3]
        have e3' : ¬ aSold = k := fun e => e3 e.symm
        by_cases e4 : k = aLoss
        · subst e4; simp [h3, h7, h10, h13.symm, h14.symm]
        · rw [if_neg e4]
          have e4' : ¬ aLoss = k := fun e => e4 e.symm
          by_cases e5 : k = aGain
          · subst e5; simp [h4, h8, h11, h13, h15.symm]
          · rw [if_neg e5]
            have e5' : ¬ aGain = k := fun e => e5 e.symm
            by_cases e6 : k = aLate
            · subst e6; simp [h5, h9, h12, h14, h15]
            · rw [if_neg e6]
              have e6' : ¬ aLate = k := fun e => e6 e.symm
              simp [e1', e2', e3', e4', e5', e6']
/-- An account's balance of figures' postings. -/
theorem sigs_postL (k : ByteArray) (f : Fig) : wrap64 (sigs k (postL f)) = wrap64 (lin k f) := by
  unfold postL
  rw [sigs_flat, sigs_fives]
/-- The accounts of postings. -/
def accs (ps : List Pst) : List ByteArray := ps.flatMap fun p => [p.deb, p.cre]
theorem sigs_none {k : ByteArray} : ∀ {ps : List Pst}, k ∉ accs ps → sigs k ps = 0
  | [], _ => rfl
  | p :: ps, h => by
    have e : accs (p :: ps) = p.deb :: p.cre :: accs ps := rfl
    rw [e, List.mem_cons, List.mem_cons] at h
    simp only [not_or] at h
    have h1 : ¬ p.deb = k := fun c => h.1 c.symm
    have h2 : ¬ p.cre = k := fun c => h.2.1 c.symm
    simp [sigs, sig, h1, h2, sigs_none h.2.2]
end Go.Proofs.YtppamojkhkdfpaaGreatDoor
namespace Go.Proofs.YtppamojkhkdfpaaGreatDoor
open Go.RowKit
/-- All balances together. -/
def sumB (f : ByteArray → Int) : List ByteArray → Int
  | [] => 0
  | k :: ks => f k + sumB f ks
theorem sumB_add (f g : ByteArray → Int) : ∀ ks, sumB (fun k => f k + g k) ks = sumB f ks + sumB g ks
  | [] => rfl
  | k :: ks => by simp only [sumB, sumB_add f g ks]; omega
theorem sumB_zero : ∀ ks : List ByteArray, sumB (fun _ => 0) ks = 0
  | [] => rfl
  | _ :: ks => by simp only [sumB, sumB_zero ks]; rfl
theorem sumB_one (x : ByteArray) (n : Int) : ∀ ks : List ByteArray, ks.Nodup → x ∈ ks → sumB (fun k => if x = k then n else 0) ks = n
  | [], _, h => absurd h (List.not_mem_nil)
  | k :: ks, hn, h => by
    rw [List.nodup_cons] at hn
    by_cases e : x = k
    · subst e
      have : sumB (fun k => if x = k then n else 0) ks = 0 := by
        have : ∀ l : List ByteArray, x ∉ l → sumB (fun k => if x = k then n else 0) l = 0 := fun l => by
          induction l with
          | nil => intro _; rfl
          | cons a l ih =>
            intro h
            rw [List.mem_cons, not_or] at h
            simp only [sumB, if_neg h.1, ih h.2]
            rfl
        exact this ks hn.1
      simp only [sumB, if_true, this]
      omega
    · have hm : x ∈ ks := by
        rcases List.mem_cons.1 h with h | h
        · exact absurd h e
        · exact h
      simp only [sumB, if_neg e, sumB_one x n ks hn.2 hm]
      omega
theorem sumB_sig (p : Pst) (ks : List ByteArray) (hn : ks.Nodup) (h1 : p.deb ∈ ks) (h2 : p.cre ∈ ks) : sumB (fun k => sig k p) ks = 0 := by
  have e : (fun k => sig k p) = fun k => (if p.deb = k then p.amt else 0) + (if p.cre = k then -p.amt else 0) := by
    funext k
    unfold sig
    by_cases h : p.cre = k <;> simp [h] <;> omega
  rw [e, sumB_add, sumB_one _ _ _ hn h1, sumB_one _ _ _ hn h2]
  omega
theorem sumB_sigs (ks : List ByteArray) (hn : ks.Nodup) : ∀ ps : List Pst, (∀ x ∈ accs ps, x ∈ ks) → sumB (fun k => sigs k ps) ks = 0
  | [], _ => sumB_zero ks
  | p :: ps, h => by
    have e : accs (p :: ps) = p.deb :: p.cre :: accs ps := rfl
    rw [e] at h
    simp only [sigs]
    rw [sumB_add, sumB_sig p ks hn (h _ (List.mem_cons_self ..)) (h _ (List.mem_cons_of_mem _ (List.mem_cons_self ..))), sumB_sigs ks hn ps (fun x hx => h x (List.mem_cons_of_mem _ (List.mem_cons_of_mem _ hx)))]
    rfl
/-- Added one behind the other, as Go adds. -/
theorem sumB_wrap (f : ByteArray → Int) : ∀ (ks : List ByteArray) (n : Int), ks.foldl (fun a k => wrap64 (a + wrap64 (f k))) (wrap64 n) = wrap64 (n + sumB f ks)
  | [], n => by simp [sumB]
  | k :: ks, n => by
    simp only [List.foldl_cons]
    rw [wrap_add, wrap_add', sumB_wrap f ks]
    simp only [sumB]
    congr 1; omega
theorem sum_all (ps : List Pst) (ks : List ByteArray) (hn : ks.Nodup) (h : ∀ x ∈ accs ps, x ∈ ks) : ks.foldl (fun a k => wrap64 (a + bal k 0 ps)) 0 = 0 := by
  have e : (fun (a : Int) (k : ByteArray) => wrap64 (a + bal k 0 ps)) = fun a k => wrap64 (a + wrap64 (sigs k ps)) := by
    funext a k; rw [bal_zero]
  have := sumB_wrap (fun k => sigs k ps) ks 0
  rw [sumB_sigs ks hn ps h] at this
  rw [e]
  simpa [wrap64] using this
end Go.Proofs.YtppamojkhkdfpaaGreatDoor
namespace Go.Proofs.YtppamojkhkdfpaaGreatDoor
open Go.RowKit
/-- What the stock account has of figures. -/
def stL (f : Fig) : Int := f.inn - f.out - f.loss + f.gain
theorem lin_stock (f : Fig) : lin aStock f = stL f := by unfold lin stL; rw [if_pos rfl]
theorem stL_plus (f g : Fig) : wrap64 (stL (f.plus g)) = wrap64 (stL f + stL g) := by
  unfold stL Fig.plus
  simp only
  unfold wrap64
  omega
theorem stL_minus (f g : Fig) : wrap64 (stL (f.minus g) + stL g) = wrap64 (stL f) := by
  unfold stL Fig.minus
  simp only
  unfold wrap64
  omega
theorem cong_r {a b : Int} (c : Int) (h : wrap64 a = wrap64 b) : wrap64 (a + c) = wrap64 (b + c) := by rw [← wrap_add, h, wrap_add]
theorem cong_l {a b : Int} (c : Int) (h : wrap64 a = wrap64 b) : wrap64 (c + a) = wrap64 (c + b) := by rw [← wrap_add', h, wrap_add']
def monL : List Mon → Int
  | [] => 0
  | m :: ms => stL m.f + monL ms
theorem monL_append : ∀ a b : List Mon, monL (a ++ b) = monL a + monL b
  | [], b => by simp [monL]
  | m :: a, b => by simp only [List.cons_append, monL, monL_append a b]; omega
theorem stL_zero : stL fig0 = 0 := rfl
theorem stL_zplus (f : Fig) : wrap64 (stL (fig0.plus f)) = wrap64 (stL f) := by rw [stL_plus, stL_zero, Int.zero_add]
theorem fold_mon : ∀ (ms : List Mon) (f : Fig), wrap64 (stL (ms.foldl (fun f x => f.plus x.f) f)) = wrap64 (stL f + monL ms)
  | [], f => by simp [monL]
  | m :: ms, f => by
    rw [List.foldl_cons, fold_mon ms, cong_r _ (stL_plus f m.f)]
    simp only [monL]
    congr 1; omega
theorem addM_mon (ms : List Mon) (n : Int) (f : Fig) : wrap64 (monL (addM ms n f)) = wrap64 (monL ms + stL f) := by
  rcases List.eq_nil_or_concat ms with rfl | ⟨a, m, rfl⟩
  · rw [addM_nil]
    simp only [monL, Int.add_zero, Int.zero_add]
    exact stL_zplus f
  · rw [List.concat_eq_append]
    by_cases e : m.n = n
    · subst e
      rw [addM_same, monL_append, monL_append]
      simp only [monL, Int.add_zero]
      rw [cong_l _ (stL_plus m.f f)]
      congr 1; omega
    · rw [addM_other _ _ _ _ e, monL_append]
      simp only [monL, Int.add_zero]
      exact cong_l _ (stL_zplus f)
def pairL : List (Ev × Lin) → Int
  | [] => 0
  | p :: ps => ctr p.1 p.2 + pairL ps
theorem stL_of (e : Ev) (y : Lin) : stL (figOf e.kind y) = ctr e y := by
  unfold figOf ctr stL
  split
  · simp
  · split
    · simp
    · split <;> simp
theorem monsA_mon : ∀ (ps : List (Ev × Lin)) (ms : List Mon), wrap64 (monL (monsA ms ps)) = wrap64 (monL ms + pairL ps)
  | [], ms => by simp [monsA, pairL]
  | p :: ps, ms => by
    unfold monsA
    rw [monsA_mon ps, cong_r _ (addM_mon ms _ _), stL_of]
    simp only [pairL]
    congr 1; omega
theorem pair_csum : ∀ (es : List Ev) (ys : List Lin), pairL (es.zip ys) = csum es ys
  | [], _ => by simp [pairL, csum]
  | _ :: _, [] => by simp [pairL, csum]
  | e :: es, y :: ys => by rw [List.zip_cons_cons, pairL, csum, pair_csum es ys]
/-- All figures, as the stock account sees them. -/
theorem untl_stock (l : List Ev) : wrap64 (stL (untl l 3300)) = wrap64 (csum (ordd l) (goL stk00 (ordd l))) := by
  unfold untl
  rw [upto_all _ _ _ fun x hx => by have := (mons_asc l).bd x hx; omega, fold_mon, stL_zero, Int.zero_add]
  unfold mons
  rw [monsA_mon, pair_csum]
  simp only [monL, Int.zero_add]
/-- What was posted, and what is open. -/
theorem unp_stock : ∀ (cs : List Cl) (f : Fig), wrap64 (sigs aStock (cs.flatMap fun c => postL c.posted) + stL (unp f cs)) = wrap64 (stL f)
  | [], f => by simp [sigs, unp]
  | c :: cs, f => by
    rw [List.flatMap_cons, sigs_append]
    unfold unp
    have h1 := unp_stock cs (f.minus c.posted)
    have h2 := sigs_postL aStock c.posted
    rw [lin_stock] at h2
    have h3 := stL_minus f c.posted
    have e : sigs aStock (postL c.posted) + sigs aStock (cs.flatMap fun c => postL c.posted) + stL (unp (f.minus c.posted) cs) = sigs aStock (postL c.posted) + (sigs aStock (cs.flatMap fun c => postL c.posted) + stL (unp (f.minus c.posted) cs)) := by omega
    rw [e, cong_l _ h1, cong_r _ h2, ← h3]
    congr 1; omega
theorem bal_stock (cs : List Cl) (f : Fig) : bal aStock 0 ((cs.flatMap fun c => postL c.posted) ++ postL (unp f cs)) = wrap64 (stL f) := by
  rw [bal_zero, sigs_append, cong_l _ (sigs_postL aStock _), lin_stock, unp_stock]
/-- Values of items. -/
theorem stock_sum (K : List ByteArray) (hK : K.Nodup) : ∀ (es : List Ev) (k : Nat) (M : Stks), (∀ y, StkOK k (M y)) → (∀ e ∈ es, Rt e) → (∀ e ∈ es, e.item ∈ K) → sumB (fun x => sumV (goS M es x).ys) K = sumB (fun x => sumV (M x).ys) K + csum es (goL M es)
  | [], _, M, _, _, _ => by simp [goS, csum]
  | e :: es, k, M, h, hr, hm => by
    have he := hr e (List.mem_cons_self ..)
    have d := doE_val (h e.item) he.2.2
    have dk := doE_ok (h e.item) he.2.2
    have ih := stock_sum K hK es (k + 1) (upd M e.item (doE (M e.item) e).1) (upd_ok h dk.1) (fun z hz => hr z (List.mem_cons_of_mem _ hz)) (fun z hz => hm z (List.mem_cons_of_mem _ hz))
    show sumB (fun x => sumV (goS (upd M e.item (doE (M e.item) e).1) es x).ys) K = _
    rw [ih]
    have e1 : (fun x => sumV (upd M e.item (doE (M e.item) e).1 x).ys) = fun x => sumV (M x).ys + (if e.item = x then ctr e (doE (M e.item) e).2 else 0) := by
      funext x
      by_cases hx : e.item = x
      · subst hx
        rw [upd_same, if_pos rfl, d.1]
      · rw [if_neg hx, upd_other _ _ _ _ (fun e => hx e.symm)]
        omega
    rw [e1, sumB_add, sumB_one _ _ _ hK (hm e (List.mem_cons_self ..))]
    show _ = sumB (fun x => sumV (M x).ys) K + csum (e :: es) ((doE (M e.item) e).2 :: goL (upd M e.item (doE (M e.item) e).1) es)
    rw [csum]
    omega
theorem wider (S : List ByteArray) (hS : S.Nodup) : ∀ its : List ByteArray, ∃ K : List ByteArray, K.Nodup ∧ (∀ x ∈ S, x ∈ K) ∧ (∀ x ∈ its, x ∈ K) ∧ ∀ g : ByteArray → Int, (∀ x, x ∉ S → g x = 0) → sumB g K = sumB g S
  | [] => ⟨S, hS, fun _ h => h, by simp, fun _ _ => rfl⟩
  | a :: its => by
    obtain ⟨K, h1, h2, h3, h4⟩ := wider S hS its
    by_cases ha : a ∈ K
    · exact ⟨K, h1, h2, fun x hx => by
        rcases List.mem_cons.1 hx with rfl | hx
        · exact ha
        · exact h3 x hx, h4⟩
    · refine ⟨a :: K, List.nodup_cons.2 ⟨ha, h1⟩, fun x hx => List.mem_cons_of_mem _ (h2 x hx), fun x hx => ?_, fun g hg => ?_⟩
      · rcases List.mem_cons.1 hx with rfl | hx
        · exact List.mem_cons_self
        · exact List.mem_cons_of_mem _ (h3 x hx)
      · rw [sumB, hg a (fun h => ha (h2 a h)), h4 g hg]
        omega
/-- Both are the same. -/
theorem stock_same (l : List Ev) (cs : List Cl) (S : List ByteArray) (hS : S.Nodup) (hn : ∀ x, x ∉ S → (goS stk00 (ordd l) x).ys = []) :
    bal aStock 0 ((cs.flatMap fun c => postL c.posted) ++ postL (unp (untl l 3300) cs)) = wrap64 (sumB (fun x => sumV (goS stk00 (ordd l) x).ys) S) := by
  rw [bal_stock, untl_stock]
  obtain ⟨K, h1, _, h3, h4⟩ := wider S hS ((ordd l).map (·.item))
  rw [← h4 (fun x => sumV (goS stk00 (ordd l) x).ys) fun x hx => by simp only [hn x hx, sumV]]
  rw [stock_sum K h1 (ordd l) 0 stk00 (fun y => stk0_ok 0) (fun e he => ordd_rt l e he) (fun e he => h3 _ (List.mem_map.2 ⟨e, he, rfl⟩))]
  have : sumB (fun x => sumV (stk00 x).ys) K = 0 := by
    have e : (fun x => sumV (stk00 x).ys) = fun _ => 0 := by funext x; rfl
    rw [e, sumB_zero]
  rw [this, Int.zero_add]
end Go.Proofs.YtppamojkhkdfpaaGreatDoor
namespace Go.Proofs.YtppamojkhkdfpaaGreatDoor
open Go.RowKit Go.Maps
/-- What has been seen of a map, and what is left. -/
structure Seen (D : DataW Value) (left : Lit → Bool) (S : List ByteArray) : Prop where
  nd : S.Nodup
  gone : ∀ x ∈ S, left (keyB x) = false
  all : ∀ x, has D (keyB x) = true → left (keyB x) = true ∨ x ∈ S
theorem seen_zero (D : DataW Value) : Seen D (has D) [] := ⟨List.nodup_nil, by simp, fun _ h => Or.inl h⟩
theorem Seen.step {D : DataW Value} {left : Lit → Bool} {S : List ByteArray} (h : Seen D left S) {x : ByteArray} (hx : left (keyB x) = true) : Seen D (fun z => left z && !z.sameKey (keyB x)) (S ++ [x]) := by
  have hn : x ∉ S := fun hm => by rw [h.gone x hm] at hx; cases hx
  refine ⟨?_, fun y hy => ?_, fun y hy => ?_⟩
  · rw [List.nodup_append]
    refine ⟨h.nd, by simp, fun a ha b hb e => ?_⟩
    rw [List.mem_singleton] at hb
    subst hb
    exact hn (e ▸ ha)
  · rcases List.mem_append.1 hy with hy | hy
    · simp only [h.gone y hy, Bool.false_and]
    · rw [List.mem_singleton] at hy
      subst hy
      simp only [WideAt.sameKey_self (keyB_key _), Bool.not_true, Bool.and_false]
  · rcases h.all y hy with hl | hm
    · by_cases e : y = x
      · exact Or.inr (by simp [e])
      · exact Or.inl (by simp only [hl, sameKey_ne (fun a => e (keyB_inj a) : keyB y ≠ keyB x), Bool.not_false, Bool.and_true])
    · exact Or.inr (by simp [hm])
theorem Seen.end_ {B : Nat} {W : World} {mb n : Nat} {D : DataW Value} {V : ByteArray → Value} {M : Stks} {u : Value} {ls : List Lin} (hr : RunRes B W mb n D V M u ls) {left : Lit → Bool} {S : List ByteArray} (h : Seen D left S) (hl : ∀ kl, left kl = false) : ∀ x, x ∉ S → (M x).ys = [] := by
  intro x hx
  by_cases e : (M x).ys = []
  · exact e
  · exfalso
    rcases h.all x (has_true_of_atKey (hr.yes x e)) with h1 | h1
    · rw [hl] at h1; cases h1
    · exact hx h1
theorem ranges_on {P : Program} {k : TypeId} {R : Value → Option (DataW Value × List MemPlace)} {w w' : World} {b r n cnt : Nat} {D : DataW Value} {left : Lit → Bool} (h : w.ranges P k R b r n D left cnt) (hb : Below w.heap.size w w') : w'.ranges P k R b r n D left cnt := by
  have hg : w.grownBy w' none := ⟨hb.os, hb.tape, hb.output, hb.size, fun j hj _ => hb.block j hj⟩
  exact h.kept hg (by simp) (by simp)
theorem postL_sz (f : Fig) : ∀ p ∈ postL f, p.deb.size ≤ 1000 ∧ p.cre.size ≤ 1000 := by
  intro p hp
  unfold postL at hp
  rw [List.mem_flatMap] at hp
  obtain ⟨q, hq, hp⟩ := hp
  have hq2 : q.deb.size ≤ 1000 ∧ q.cre.size ≤ 1000 := by
    simp only [fives, List.mem_cons, List.not_mem_nil, or_false] at hq
    rcases hq with rfl | rfl | rfl | rfl | rfl <;> (dsimp only; decide)
  unfold post1 at hp
  split at hp
  · simp only [List.mem_singleton] at hp; subst hp; exact hq2
  · split at hp
    · simp only [List.mem_singleton] at hp; subst hp; exact ⟨hq2.2, hq2.1⟩
    · cases hp
/-- All that was posted. -/
def postsC (cs : List Cl) : List Pst := cs.flatMap fun c => postL c.posted
theorem posts_len (cs : List Cl) : (postsC cs).length ≤ cs.length * 5 := by
  unfold postsC
  induction cs with
  | nil => simp
  | cons c cs ih => rw [List.flatMap_cons, List.length_append, List.length_cons]; have := postL_len c.posted; omega
theorem posts_snoc {cs : List Cl} {k : Nat} (hk : k < cs.length) : postsC (cs.take (k + 1)) = postsC (cs.take k) ++ postL cs[k].posted := by
  unfold postsC
  rw [List.take_succ_eq_append_getElem hk, List.flatMap_append]
  simp
theorem posts_sz (cs : List Cl) : ∀ p ∈ postsC cs, p.deb.size ≤ 1000 ∧ p.cre.size ≤ 1000 := by
  intro p hp
  unfold postsC at hp
  rw [List.mem_flatMap] at hp
  obtain ⟨c, _, hp⟩ := hp
  exact postL_sz _ p hp
theorem stock_is (l : List Ev) (cs : List Cl) (S : List ByteArray) (hS : S.Nodup) (hn : ∀ x, x ∉ S → (goS stk00 (ordd l) x).ys = []) :
    bal aStock 0 (postsC cs ++ postL (unp (untl l 3300) cs)) = wrap64 (sumB (fun x => sumV (goS stk00 (ordd l) x).ys) S) := stock_same l cs S hS hn
theorem stock_none {ps : List Pst} (h : aStock ∉ accs ps) : bal aStock 0 ps = 0 := by
  rw [bal_zero, sigs_none h]; unfold wrap64; omega
theorem str_eqS {a b : ByteArray} : (a.toList == b.toList) = decide (a = b) := by
  rw [ByteArray.toList_eq, ByteArray.toList_eq, Bool.eq_iff_iff]
  simp only [beq_iff_eq, decide_eq_true_eq]
  exact ⟨fun e => ByteArray.ext (Array.toList_inj.1 e), fun e => by rw [e]⟩
theorem sumB_snoc (f : ByteArray → Int) (S : List ByteArray) (x : ByteArray) : sumB f (S ++ [x]) = sumB f S + f x := by
  induction S with
  | nil => simp [sumB]
  | cons a S ih => simp only [List.cons_append, sumB, ih]; omega
end Go.Proofs.YtppamojkhkdfpaaGreatDoor
