/- Value is neither made nor lost, in plain mathematics. No walk. -/
import Derived.Test.YtgjjfeimgbibjaaKpSums
namespace Go.Proofs.Ytgjjfeimgbibjaa
/-- What an event's line puts, or takes. -/
def ctr (e : Ev) (y : Lin) : Int := if e.kind = 1 ∨ e.kind = 2 then y.val else if e.kind = 3 then -y.val else if y.gain then y.val else -y.val
theorem doE_val {k : Nat} {s : Stk} {e : Ev} (h : StkOK k s) (hr : rtK e.kind e.qty e.price e.ofI) :
    sumV (doE s e).1.ys = sumV s.ys + ctr e (doE s e).2 ∧ (doE s e).2.id = e.id ∧ (doE s e).2.val ≤ (k + 1) * 100000000000 ∧ (0 < (doE s e).2.short → (doE s e).1.ys = []) := by
  have hn := sum_nonneg h.ok
  have hv := h.v
  have hq := h.q
  have hp := h.p
  unfold doE ctr
  rcases hr with ⟨e1, a, b, c⟩ | ⟨e1, a, b, c⟩ | ⟨e1, a, b, c⟩ | ⟨e1, a, b, c⟩
  · have m := mul_bound (q := e.qty) (p := e.price) (by omega) a.2 b.1 b.2
    rw [if_pos e1, if_pos (Or.inl e1)]
    refine ⟨?_, rfl, by simp only; omega, fun x => absurd x (Int.lt_irrefl _)⟩
    rw [sumV_append]; simp only [sumV]; omega
  · rw [if_neg (by omega), if_pos e1, if_pos (Or.inr e1)]
    have cs := chg_sum e.ofI e.price s.ys
    split
    · rename_i hh
      rw [if_pos hh] at cs
      exact ⟨cs.2.1, rfl, by simp only; omega, fun x => absurd x (Int.lt_irrefl _)⟩
    · refine ⟨by simp only; omega, rfl, by simp only; omega, fun x => absurd x (Int.lt_irrefl _)⟩
  · rw [if_neg (by omega), if_neg (by omega), if_pos e1, if_neg (by omega), if_pos e1]
    have t := tk_took s.ys e.qty h.ok (by omega)
    have tv := t.val
    have tn := sum_nonneg t.ok
    refine ⟨by simp only; omega, rfl, by simp only; omega, fun x => ?_⟩
    simp only at x ⊢
    rcases Int.lt_or_le (sumQ s.ys) e.qty with c | c
    · exact t.gone (by omega)
    · have := (t.few c).2; omega
  · have n1 : ¬ e.kind = 1 := by omega
    have n2 : ¬ e.kind = 2 := by omega
    have n3 : ¬ e.kind = 3 := by omega
    have n4 : ¬ (e.kind = 1 ∨ e.kind = 2) := by omega
    rw [if_neg n4, if_neg n3]
    by_cases hlt : sumQ s.ys < e.qty
    · have m := mul_bound (q := e.qty - sumQ s.ys) (p := s.price) (by omega) (by omega) hp.1 hp.2
      simp only [n1, n2, n3, hlt, if_false, if_true]
      refine ⟨?_, trivial, by omega, fun x => absurd x (Int.lt_irrefl _)⟩
      rw [sumV_append]; simp only [sumV]; omega
    · have t := tk_took s.ys (sumQ s.ys - e.qty) h.ok (by omega)
      have tv := t.val
      have tn := sum_nonneg t.ok
      simp only [n1, n2, n3, hlt, if_false, Bool.false_eq_true]
      exact ⟨by omega, trivial, by omega, fun x => absurd x (Int.lt_irrefl _)⟩
def csum : List Ev → List Lin → Int
  | e :: es, y :: ys => ctr e y + csum es ys
  | _, _ => 0
/-- Each line with its event. -/
inductive Tally (p : Ev → Lin → Prop) : List Ev → List Lin → Prop
  | nil : Tally p [] []
  | cons {e : Ev} {y : Lin} {es : List Ev} {ys : List Lin} : p e y → Tally p es ys → Tally p (e :: es) (y :: ys)
theorem Tally.imp {p q : Ev → Lin → Prop} {es : List Ev} {ys : List Lin} (h : Tally p es ys) (hp : ∀ e y, e ∈ es → p e y → q e y) : Tally q es ys := by
  induction h with
  | nil => exact .nil
  | cons h1 _ ih => exact .cons (hp _ _ (List.mem_cons_self ..) h1) (ih fun e y he => hp e y (List.mem_cons_of_mem _ he))
theorem cons_val (x : ByteArray) : ∀ (es : List Ev) (k : Nat) (M : Stks), (∀ y, StkOK k (M y)) → (∀ e ∈ es, Rt e ∧ e.item = x) → sumV (goS M es x).ys = sumV (M x).ys + csum es (goL M es)
  | [], k, M, h, _ => by simp [goS, csum]
  | e :: es, k, M, h, hr => by
    have he := hr e (List.mem_cons_self ..)
    have d := doE_val (h e.item) he.1.2.2
    have dk := doE_ok (h e.item) he.1.2.2
    have ih := cons_val x es (k + 1) (upd M e.item (doE (M e.item) e).1) (upd_ok h dk.1) fun z hz => hr z (List.mem_cons_of_mem _ hz)
    show sumV (goS (upd M e.item (doE (M e.item) e).1) es x).ys = _
    rw [ih, he.2, upd_same]
    rw [he.2] at d
    show _ = sumV (M x).ys + csum (e :: es) ((doE (M e.item) e).2 :: goL (upd M e.item (doE (M e.item) e).1) es)
    rw [csum, he.2, d.1]
    omega
theorem tally_ids : ∀ (es : List Ev) (k : Nat) (M : Stks), (∀ y, StkOK k (M y)) → (∀ e ∈ es, Rt e) → Tally (fun e y => y.id = e.id) es (goL M es)
  | [], _, _, _, _ => .nil
  | e :: es, k, M, h, hr => by
    have he := hr e (List.mem_cons_self ..)
    exact .cons (doE_val (h e.item) he.2.2).2.1 (tally_ids es (k + 1) _ (upd_ok h (doE_ok (h e.item) he.2.2).1) fun z hz => hr z (List.mem_cons_of_mem _ hz))
theorem line_small : ∀ (es : List Ev) (k : Nat) (M : Stks), (∀ y, StkOK k (M y)) → (∀ e ∈ es, Rt e) → ∀ y ∈ goL M es, y.val ≤ (k + es.length) * 100000000000
  | [], _, _, _, _, y, hy => by cases hy
  | e :: es, k, M, h, hr, y, hy => by
    have he := hr e (List.mem_cons_self ..)
    have hy' : y ∈ (doE (M e.item) e).2 :: goL (upd M e.item (doE (M e.item) e).1) es := hy
    rcases List.mem_cons.1 hy' with rfl | hm
    · have := (doE_val (h e.item) he.2.2).2.2.1
      simp only [List.length_cons]; omega
    · have := line_small es (k + 1) _ (upd_ok h (doE_ok (h e.item) he.2.2).1) (fun z hz => hr z (List.mem_cons_of_mem _ hz)) y hm
      simp only [List.length_cons]; omega
def netF (a : Four) : Int := a.i + a.g - a.o - a.l
theorem net_fold {l : List Ev} {es : List Ev} {ys : List Lin} (h : Tally (fun e y => l.find? (fun e' => decide (e'.id = y.id)) = some e) es ys) : ∀ a : Four, netF (ys.foldl (smS l) a) = netF a + csum es ys := by
  induction h with
  | nil => intro a; simp [csum]
  | cons h1 _ ih =>
    intro a
    rw [List.foldl_cons, ih, csum]
    unfold smS ctr netF
    rw [h1]
    simp only
    split
    · simp only; omega
    · split
      · simp only; omega
      · split <;> simp only <;> omega
theorem find_id {l : List Ev} (hn : (l.map (·.id)).Nodup) {e : Ev} (he : e ∈ l) : l.find? (fun e' => decide (e'.id = e.id)) = some e := by
  cases hf : l.find? (fun e' => decide (e'.id = e.id)) with
  | none =>
    rw [List.find?_eq_none] at hf
    exact absurd (by simp) (hf e he)
  | some e' =>
    have h1 := List.find?_some hf
    have h2 := List.mem_of_find?_eq_some hf
    rw [id_inj hn e' e h2 he (by simpa using h1)]
theorem numb_nodup (l : List Ev) : ((numb l).map (·.id)).Nodup := by
  unfold numb
  rw [List.nodup_iff_pairwise_ne, List.pairwise_iff_getElem]
  intro i j hi hj hij
  simp only [List.getElem_map, List.getElem_mapIdx]
  omega
/-- All of it, item by item. -/
structure Conserves (x : ByteArray) (m : List Ev) : Prop where
  net : netF (smF m (goL stk00 (ordd m))) = sumV (goS stk00 (ordd m) x).ys
  len : (goL stk00 (ordd m)).length = m.length
  ok : StkOK m.length (goS stk00 (ordd m) x)
  pos : ∀ y ∈ goL stk00 (ordd m), 0 ≤ y.val ∧ 0 ≤ y.short ∧ 0 ≤ y.late
  small : m.length ≤ 50 → ∀ y ∈ goL stk00 (ordd m), y.val ≤ 10000000000000
  last : ∀ (k : Nat) (hk : k < (goL stk00 (ordd m)).length), k + 1 = (goL stk00 (ordd m)).length → 0 < (goL stk00 (ordd m))[k].short → (goS stk00 (ordd m) x).ys = []
theorem conserves {x : ByteArray} {m : List Ev} (hr : ∀ e ∈ m, Rt e ∧ e.item = x) (hn : (m.map (·.id)).Nodup) : Conserves x m := by
  have hO : ordd m = stl m := by unfold ordd; rw [filter_rt fun e he => (hr e he).1]
  have hp := stl_perm m
  have hr2 : ∀ e ∈ ordd m, Rt e ∧ e.item = x := fun e he => hr e (by rw [hO] at he; exact hp.mem_iff.1 he)
  have hl : (ordd m).length = m.length := by rw [hO, stl_len]
  have g := goS_ok (ordd m) 0 stk00 (fun y => stk0_ok 0) fun e he => (hr2 e he).1
  refine ⟨?_, by rw [goL_len, hl], ?_, fun y hy => ⟨(g.2 y hy).v, (g.2 y hy).s, (g.2 y hy).l⟩, fun h50 y hy => ?_, ?_⟩
  · have t := (tally_ids (ordd m) 0 stk00 (fun y => stk0_ok 0) fun e he => (hr2 e he).1).imp (q := fun e y => m.find? (fun e' => decide (e'.id = y.id)) = some e) fun e y he hy => by
      rw [hy]; exact find_id hn (by rw [hO] at he; exact hp.mem_iff.1 he)
    have c := cons_val x (ordd m) 0 stk00 (fun y => stk0_ok 0) hr2
    have f := net_fold t ⟨0, 0, 0, 0⟩
    unfold smF
    rw [f, c]
    simp [netF, stk00, stk0, sumV]
  · have := g.1 x
    rw [Nat.zero_add, hl] at this
    exact this
  · have := line_small (ordd m) 0 stk00 (fun y => stk0_ok 0) (fun e he => (hr2 e he).1) y hy
    rw [hl] at this
    omega
  · intro k hk hk1 hs
    have hkl : k < (ordd m).length := by rw [goL_len] at hk; exact hk
    have hk2 : k + 1 = (ordd m).length := by rw [goL_len] at hk1; exact hk1
    have e1 := goL_snoc stk00 (ordd m) k hkl
    have e2 := goS_snoc stk00 (ordd m) k hkl
    rw [hk2, List.take_length] at e1 e2
    have hx := (hr2 (ordd m)[k] (List.getElem_mem hkl))
    have hok : StkOK k (goS stk00 ((ordd m).take k) (ordd m)[k].item) := by
      have := (goS_ok ((ordd m).take k) 0 stk00 (fun y => stk0_ok 0) fun e he => (hr2 e (List.mem_of_mem_take he)).1).1 (ordd m)[k].item
      rw [Nat.zero_add, List.length_take, Nat.min_eq_left (by omega)] at this
      exact this
    have hd := (doE_val hok hx.1.2.2).2.2.2
    have e3 : (goL stk00 (ordd m))[k] = (doE (goS stk00 ((ordd m).take k) (ordd m)[k].item) (ordd m)[k]).2 := by
      have hlen : (goL stk00 ((ordd m).take k)).length = k := by rw [goL_len, List.length_take]; omega
      have : (goL stk00 (ordd m))[k]? = some (doE (goS stk00 ((ordd m).take k) (ordd m)[k].item) (ordd m)[k]).2 := by
        rw [e1, List.getElem?_append_right (by omega), hlen]; simp
      rw [List.getElem?_eq_getElem hk] at this
      exact Option.some.inj this
    rw [e3] at hs
    rw [e2]
    conv => lhs; rw [← hx.2]
    rw [upd_same]
    exact hd hs
end Go.Proofs.Ytgjjfeimgbibjaa
