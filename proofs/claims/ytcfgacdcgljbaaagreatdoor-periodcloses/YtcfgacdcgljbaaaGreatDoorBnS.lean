/- The calendar in plain mathematics: lengths of months, first days of months, which day a number is. No walk. What events come to month by month, in plain mathematics. No walk. The document's own months: figures by months, in any order. No walk. The walk of tallymanref.add; figures by months in a map. -/
import Derived.Test.YtcfgacdcgljbaaaGreatDoorBnL
import Derived.Test.YtcfgacdcgljbaaaGreatDoorBnR
import Derived.Test.YtcfgacdcgljbaaaGreatDoorBnM
namespace Go.Proofs.YtcfgacdcgljbaaaGreatDoor
/-- 1 in a leap year, else 0. -/
def lpy (y : Int) : Int := if y % 4 = 0 ∧ (y % 100 ≠ 0 ∨ y % 400 = 0) then 1 else 0
/-- How many days the m-th month of a year has. -/
def mlen (y m : Int) : Int := if m = 2 then 28 + lpy y else if m = 4 ∨ m = 6 ∨ m = 9 ∨ m = 11 then 30 else 31
/-- How many leap years there are up to y. -/
def lps (y : Int) : Int := y / 4 - y / 100 + y / 400
/-- The first day of a year. -/
def yfd (y : Int) : Int := (y - 1900) * 365 + lps (y - 1) - 460
/-- The days of the first k months of a year. -/
def cumN (y : Int) : Nat → Int
  | 0 => 0
  | k + 1 => cumN y k + mlen y (k + 1)
/-- The k-th month's year, its month within that, its length. -/
def ky (k : Nat) : Int := 1900 + ((k / 12 : Nat) : Int)
def km (k : Nat) : Int := ((k % 12 : Nat) : Int) + 1
def klen (k : Nat) : Int := mlen (ky k) (km k)
/-- The first day of the k-th month, month by month. -/
def kfd : Nat → Int
  | 0 => 0
  | k + 1 => kfd k + klen k
/-- The day n is the d-th of the k-th month. -/
def IsDay (n : Int) (k : Nat) (d : Int) : Prop := 1 ≤ d ∧ d ≤ klen k ∧ kfd k + d - 1 = n
theorem lpy_bd (y : Int) : 0 ≤ lpy y ∧ lpy y ≤ 1 := by unfold lpy; split <;> omega
theorem mlen_bd (y m : Int) : 28 ≤ mlen y m ∧ mlen y m ≤ 31 := by
  have := lpy_bd y
  unfold mlen; split
  · omega
  · split <;> omega
theorem klen_bd (k : Nat) : 28 ≤ klen k ∧ klen k ≤ 31 := mlen_bd _ _
theorem lps_step (y : Int) : lps y = lps (y - 1) + lpy y := by
  unfold lps lpy; split <;> omega
theorem cum12 (y : Int) : cumN y 12 = 365 + lpy y := by simp [cumN, mlen]; omega
theorem cumN_nn (y : Int) : ∀ k : Nat, 0 ≤ cumN y k ∧ cumN y k ≤ 31 * k
  | 0 => by simp [cumN]
  | k + 1 => by have := cumN_nn y k; have := mlen_bd y (k + 1); simp only [cumN]; omega
theorem yfd_step (y : Int) : yfd (y + 1) = yfd y + cumN y 12 := by
  have := lps_step y
  rw [cum12]; unfold yfd
  have e : y + 1 - 1 = y := by omega
  rw [e]; omega
theorem kfd_eq : ∀ k : Nat, kfd k = yfd (ky k) + cumN (ky k) (k % 12)
  | 0 => by decide
  | k + 1 => by
    have ih := kfd_eq k
    simp only [kfd]
    rw [ih]
    by_cases h : k % 12 = 11
    · have e1 : ky (k + 1) = ky k + 1 := by unfold ky; omega
      have e2 : (k + 1) % 12 = 0 := by omega
      rw [e1, e2, yfd_step]
      have e3 : klen k = mlen (ky k) 12 := by unfold klen km; rw [h]; rfl
      rw [h, e3]
      simp only [cumN]; simp; omega
    · have e1 : ky (k + 1) = ky k := by unfold ky; omega
      have e2 : (k + 1) % 12 = k % 12 + 1 := by omega
      rw [e1, e2]
      simp only [cumN, klen, km]; omega
theorem kfd_lt (a : Nat) : ∀ b : Nat, a < b → kfd a + klen a ≤ kfd b
  | 0, h => by omega
  | b + 1, h => by
    simp only [kfd]
    by_cases e : a = b
    · subst e; omega
    · have := kfd_lt a b (by omega); have := klen_bd b; omega
theorem kfd_nn (k : Nat) : 0 ≤ kfd k := by
  cases k with
  | zero => simp [kfd]
  | succ k => have := kfd_lt 0 (k + 1) (by omega); have := klen_bd 0; simp [kfd] at *; omega
theorem kfd_low : ∀ k : Nat, 28 * (k : Int) ≤ kfd k
  | 0 => by simp [kfd]
  | k + 1 => by have := kfd_low k; have := klen_bd k; simp only [kfd]; omega
theorem isDay_uniq {n : Int} {k k' : Nat} {d d' : Int} (h : IsDay n k d) (h' : IsDay n k' d') : k = k' ∧ d = d' := by
  obtain ⟨a, b, c⟩ := h
  obtain ⟨a', b', c'⟩ := h'
  rcases Nat.lt_trichotomy k k' with l | rfl | l
  · have := kfd_lt k k' l; omega
  · omega
  · have := kfd_lt k' k l; omega
theorem isDay_mono {n n' : Int} {k k' : Nat} {d d' : Int} (h : IsDay n k d) (h' : IsDay n' k' d') (hn : n ≤ n') : k ≤ k' := by
  obtain ⟨a, b, c⟩ := h
  obtain ⟨a', b', c'⟩ := h'
  apply Nat.le_of_not_lt
  intro l
  have := kfd_lt k' k l; omega
/-- The day behind one. -/
theorem isDay_next {n : Int} {k : Nat} {d : Int} (h : IsDay n k d) : (d < klen k ∧ IsDay (n + 1) k (d + 1)) ∨ (d = klen k ∧ IsDay (n + 1) (k + 1) 1) := by
  obtain ⟨a, b, c⟩ := h
  have := klen_bd (k + 1)
  by_cases e : d < klen k
  · left; exact ⟨e, by omega, by omega, by omega⟩
  · right; refine ⟨by omega, by omega, by omega, ?_⟩
    simp only [kfd]; omega
theorem isDay_last (k : Nat) : IsDay (kfd k + klen k - 1) k (klen k) := by
  have := klen_bd k
  exact ⟨by omega, by omega, by omega⟩
/-- A year and a month are the k-th month. -/
def mk (y m : Int) : Nat := (12 * (y - 1900) + m - 1).toNat
theorem mk_ky {y m : Int} (hy : 1900 ≤ y) (h1 : 1 ≤ m) (h2 : m ≤ 12) : ky (mk y m) = y := by unfold ky mk; omega
theorem mk_km {y m : Int} (hy : 1900 ≤ y) (h1 : 1 ≤ m) (h2 : m ≤ 12) : km (mk y m) = m := by unfold km mk; omega
theorem ky_ge (k : Nat) : 1900 ≤ ky k := by unfold ky; omega
theorem km_bd (k : Nat) : 1 ≤ km k ∧ km k ≤ 12 := by unfold km; omega
theorem mk_of (k : Nat) : mk (ky k) (km k) = k := by unfold mk ky km; omega
/-- The first day of a month of a year, as the code counts it. -/
def fst (y m : Int) : Int := yfd y + cumN y (m - 1).toNat
theorem fst_mk {y m : Int} (hy : 1900 ≤ y) (h1 : 1 ≤ m) (h2 : m ≤ 12) : fst y m = kfd (mk y m) := by
  rw [kfd_eq, mk_ky hy h1 h2]
  have e : mk y m % 12 = (m - 1).toNat := by unfold mk; omega
  rw [e]; rfl
theorem fst_k (k : Nat) : fst (ky k) (km k) = kfd k := by
  have := fst_mk (ky_ge k) (km_bd k).1 (km_bd k).2
  rw [this, mk_of]
theorem yfd_fst (y : Int) : fst y 1 = yfd y := by simp [fst, cumN]
theorem yfd_low {y : Int} (hy : 1900 ≤ y) : (y - 1900) * 365 ≤ yfd y ∧ yfd y ≤ (y - 1900) * 366 := by
  unfold yfd lps; omega
/-- Month by month: which month, and which day of it. -/
def kdF : Nat → Nat → Int → Nat × Int
  | 0, k, n => (k, n + 1)
  | f + 1, k, n => if n < klen k then (k, n + 1) else kdF f (k + 1) (n - klen k)
theorem kdF_is : ∀ (f k : Nat) (n : Int), 0 ≤ n → n < 28 * f → IsDay (kfd k + n) (kdF f k n).1 (kdF f k n).2
  | 0, _, _, h, h' => by omega
  | f + 1, k, n, h, h' => by
    unfold kdF
    by_cases c : n < klen k
    · rw [if_pos c]; exact ⟨by show 1 ≤ n + 1; omega, by show n + 1 ≤ klen k; omega, by show kfd k + (n + 1) - 1 = _; omega⟩
    · rw [if_neg c]
      have hb := klen_bd k
      have := kdF_is f (k + 1) (n - klen k) (by omega) (by omega)
      have e : kfd (k + 1) + (n - klen k) = kfd k + n := by simp only [kfd]; omega
      rw [e] at this; exact this
/-- A day's month, counted from January 1900, and its day of the month. -/
def dK (n : Int) : Nat := (kdF (n.toNat + 1) 0 n).1
def dD (n : Int) : Int := (kdF (n.toNat + 1) 0 n).2
theorem is_day (n : Int) (h : 0 ≤ n) : IsDay n (dK n) (dD n) := by
  have := kdF_is (n.toNat + 1) 0 n h (by omega)
  have e : kfd 0 + n = n := by simp [kfd]
  rw [e] at this; exact this
theorem of_isDay {n : Int} {k : Nat} {d : Int} (h : IsDay n k d) : dK n = k ∧ dD n = d := by
  have := kfd_nn k
  exact isDay_uniq (is_day n (by obtain ⟨a, b, c⟩ := h; omega)) h
theorem day_nn {n : Int} {k : Nat} {d : Int} (h : IsDay n k d) : 0 ≤ n := by
  have := kfd_nn k
  obtain ⟨a, b, c⟩ := h; omega
/-- The months of the days there are. -/
theorem kfd_3285 : kfd 3285 = 99985 := by rw [kfd_eq]; decide
theorem kfd_3286 : kfd 3286 = 100016 := by rw [kfd_eq]; decide
theorem dK_le {n : Int} (h : 0 ≤ n) (h' : n ≤ 99999) : dK n ≤ 3285 := by
  obtain ⟨a, b, c⟩ := is_day n h
  apply Nat.le_of_not_lt
  intro l
  have h2 := kfd_3286
  by_cases e : dK n = 3286
  · rw [e] at c; omega
  · have := kfd_lt 3286 (dK n) (by omega); have := klen_bd 3286; omega
end Go.Proofs.YtcfgacdcgljbaaaGreatDoor
namespace Go.Proofs.YtcfgacdcgljbaaaGreatDoor
open Go.RowKit Go.Shelf
/-- A month, and its figures. -/
structure Mon where
  n : Int
  f : Fig
  deriving Inhabited
def monC (m : Mon) : List Value := .int .i64 m.n :: figC m.f
theorem monC_len (m : Mon) : (monC m).length = 6 := rfl
/-- One more line. -/
def addM (ms : List Mon) (n : Int) (f : Fig) : List Mon :=
  match ms.getLast? with
  | none => [⟨n, fig0.plus f⟩]
  | some m => if m.n = n then ms.dropLast ++ [⟨n, m.f.plus f⟩] else ms ++ [⟨n, fig0.plus f⟩]
theorem addM_nil (n : Int) (f : Fig) : addM [] n f = [⟨n, fig0.plus f⟩] := rfl
theorem addM_same (ms : List Mon) (m : Mon) (f : Fig) : addM (ms ++ [m]) m.n f = ms ++ [⟨m.n, m.f.plus f⟩] := by
  unfold addM; simp
theorem addM_other (ms : List Mon) (m : Mon) (n : Int) (f : Fig) (h : m.n ≠ n) : addM (ms ++ [m]) n f = ms ++ [m] ++ [⟨n, fig0.plus f⟩] := by
  unfold addM; simp [h]
def monsA (ms : List Mon) : List (Ev × Lin) → List Mon
  | [] => ms
  | p :: ps => monsA (addM ms (dK p.1.day : Int) (figOf p.1.kind p.2)) ps
theorem monsA_append (ms : List Mon) (a b : List (Ev × Lin)) : monsA ms (a ++ b) = monsA (monsA ms a) b := by
  induction a generalizing ms with
  | nil => rfl
  | cons p a ih => exact ih _
/-- All months of events in which something happened. -/
noncomputable def mons (l : List Ev) : List Mon := monsA [] ((ordd l).zip (goL stk00 (ordd l)))
def upto (m : Int) (f : Fig) : List Mon → Fig
  | [] => f
  | x :: xs => upto m (if x.n ≤ m then f.plus x.f else f) xs
theorem upto_append (m : Int) (f : Fig) (a b : List Mon) : upto m f (a ++ b) = upto m (upto m f a) b := by
  induction a generalizing f with
  | nil => rfl
  | cons p a ih => exact ih _
theorem upto_ok (m : Int) : ∀ (l : List Mon) (f : Fig), f.ok → (upto m f l).ok
  | [], _, h => h
  | x :: xs, f, h => by
    unfold upto
    refine upto_ok m xs _ ?_
    split
    · exact plus_ok _ _
    · exact h
noncomputable def untl (l : List Ev) (m : Int) : Fig := upto m fig0 (mons l)
theorem untl_ok (l : List Ev) (m : Int) : (untl l m).ok := upto_ok m _ _ fig0_ok
/-- Months in order, each from 0 on. -/
structure Asc (ms : List Mon) (hi : Int) : Prop where
  row : ms.Pairwise fun a b => a.n < b.n
  bd : ∀ m ∈ ms, 0 ≤ m.n ∧ m.n ≤ hi
theorem asc_add {ms : List Mon} {hi n : Int} {f : Fig} (h : Asc ms hi) (hn : hi ≤ n) (h0 : 0 ≤ n) : Asc (addM ms n f) n := by
  rcases List.eq_nil_or_concat ms with rfl | ⟨a, m, rfl⟩
  · rw [addM_nil]
    exact ⟨List.pairwise_singleton .., fun m hm => by rw [List.mem_singleton] at hm; subst hm; exact ⟨h0, Int.le_refl _⟩⟩
  · rw [List.concat_eq_append] at h ⊢
    have hm := h.bd m (by simp)
    have hr := List.pairwise_append.1 h.row
    by_cases e : m.n = n
    · subst e
      rw [addM_same]
      refine ⟨List.pairwise_append.2 ⟨hr.1, List.pairwise_singleton .., fun x hx y hy => ?_⟩, fun x hx => ?_⟩
      · rw [List.mem_singleton] at hy
        subst hy
        exact hr.2.2 x hx m (by simp)
      · rcases List.mem_append.1 hx with hx | hx
        · have := h.bd x (by simp [hx]); omega
        · rw [List.mem_singleton] at hx
          subst hx
          exact ⟨h0, Int.le_refl _⟩
    · rw [addM_other _ _ _ _ e]
      refine ⟨List.pairwise_append.2 ⟨h.row, List.pairwise_singleton .., fun x hx y hy => ?_⟩, fun x hx => ?_⟩
      · rw [List.mem_singleton] at hy
        subst hy
        rcases List.mem_append.1 hx with hx | hx
        · have := hr.2.2 x hx m (by simp)
          show x.n < n
          omega
        · rw [List.mem_singleton] at hx
          subst hx
          show x.n < n
          omega
      · rcases List.mem_append.1 hx with hx | hx
        · have := h.bd x hx; omega
        · rw [List.mem_singleton] at hx
          subst hx
          exact ⟨h0, Int.le_refl _⟩
theorem dk_mono {a b : Int} (h : 0 ≤ a) (hab : a ≤ b) : dK a ≤ dK b := isDay_mono (is_day a h) (is_day b (by omega)) hab
theorem asc_mons : ∀ (ps : List (Ev × Lin)) (ms : List Mon) (d : Int), 0 ≤ d → Asc ms (dK d : Int) → (∀ p ∈ ps, d ≤ p.1.day) → (ps.Pairwise fun p q => p.1.day ≤ q.1.day) → ∃ d', (d' = d ∨ ∃ p ∈ ps, d' = p.1.day) ∧ Asc (monsA ms ps) (dK d' : Int)
  | [], ms, d, _, h, _, _ => ⟨d, Or.inl rfl, h⟩
  | p :: ps, ms, d, h0, h, hd, hp => by
    have hpd := hd p (by simp)
    rw [List.pairwise_cons] at hp
    have hk := dk_mono h0 hpd
    obtain ⟨d', hd', ha⟩ := asc_mons ps (addM ms (dK p.1.day : Int) (figOf p.1.kind p.2)) p.1.day (by omega) (asc_add h (by omega) (by omega)) (fun q hq => hp.1 q hq) hp.2
    refine ⟨d', Or.inr ?_, ha⟩
    rcases hd' with rfl | ⟨q, hq, rfl⟩
    · exact ⟨p, by simp, rfl⟩
    · exact ⟨q, by simp [hq], rfl⟩
theorem day_le {x y : Ev} (h : ltOf cmpE y x = false) : x.day ≤ y.day := by
  rw [Bool.eq_false_iff] at h
  rw [Ne, lt_cmp] at h
  omega
theorem ordd_sorted (l : List Ev) : (ordd l).Pairwise fun x y => x.day ≤ y.day := (stl_sorted _).imp day_le
theorem zip_pw : ∀ (a : List Ev) (b : List Lin), (a.Pairwise fun x y => x.day ≤ y.day) → (a.zip b).Pairwise fun p q => p.1.day ≤ q.1.day
  | [], _, _ => by simp
  | x :: a, [], _ => by simp
  | x :: a, y :: b, h => by
    rw [List.pairwise_cons] at h
    rw [List.zip_cons_cons, List.pairwise_cons]
    exact ⟨fun q hq => h.1 q.1 (List.of_mem_zip hq).1, zip_pw a b h.2⟩
/-- Months stand in order, each once. -/
theorem mons_asc (l : List Ev) : Asc (mons l) 3285 := by
  obtain ⟨d', hd', ha⟩ := asc_mons ((ordd l).zip (goL stk00 (ordd l))) [] 0 (Int.le_refl _) ⟨List.Pairwise.nil, fun m hm => absurd hm (by simp)⟩ (fun p hp => ((ordd_rt l) p.1 (List.of_mem_zip hp).1).2.1.1) (zip_pw _ _ (ordd_sorted l))
  have hd : 0 ≤ d' ∧ d' ≤ 99999 := by
    rcases hd' with rfl | ⟨p, hp, rfl⟩
    · omega
    · exact ((ordd_rt l) p.1 (List.of_mem_zip hp).1).2.1
  have := dK_le hd.1 hd.2
  refine ⟨ha.row, fun m hm => ?_⟩
  have := ha.bd m hm
  omega
theorem addM_len (ms : List Mon) (n : Int) (f : Fig) : (addM ms n f).length ≤ ms.length + 1 := by
  rcases List.eq_nil_or_concat ms with rfl | ⟨a, m, rfl⟩
  · simp [addM_nil]
  · rw [List.concat_eq_append]
    by_cases e : m.n = n
    · subst e; rw [addM_same]; simp
    · rw [addM_other _ _ _ _ e]; simp
theorem monsA_len : ∀ (ps : List (Ev × Lin)) (ms : List Mon), (monsA ms ps).length ≤ ms.length + ps.length
  | [], ms => by simp [monsA]
  | p :: ps, ms => by
    unfold monsA
    have h1 := monsA_len ps (addM ms (dK p.1.day : Int) (figOf p.1.kind p.2))
    have h2 := addM_len ms (dK p.1.day : Int) (figOf p.1.kind p.2)
    rw [List.length_cons]
    omega
theorem mons_len (l : List Ev) : (mons l).length ≤ l.length := by
  have h1 := monsA_len ((ordd l).zip (goL stk00 (ordd l))) []
  have h2 := ordd_len l
  rw [List.length_zip, goL_len, Nat.min_self, List.length_nil] at h1
  unfold mons
  omega
theorem doE_id (s : Stk) (e : Ev) : (doE s e).2.id = e.id := by
  unfold doE
  split
  · rfl
  · split
    · split <;> rfl
    · split
      · rfl
      · split <;> rfl
theorem goL_id (M : Stks) : ∀ (es : List Ev) (k : Nat) (hk : k < (goL M es).length) (hk' : k < es.length), (goL M es)[k].id = es[k].id
  | e :: es, 0, _, _ => doE_id _ e
  | e :: es, k + 1, hk, hk' => goL_id _ es k (by simpa [goL] using hk) (by simpa using hk')
/-- The whole is its months. -/
theorem upto_all : ∀ (l : List Mon) (m : Int) (f : Fig), (∀ x ∈ l, x.n ≤ m) → upto m f l = l.foldl (fun f x => f.plus x.f) f
  | [], _, _, _ => rfl
  | x :: xs, m, f, h => by
    unfold upto
    rw [if_pos (h x (by simp)), List.foldl_cons]
    exact upto_all xs m _ fun y hy => h y (by simp [hy])
end Go.Proofs.YtcfgacdcgljbaaaGreatDoor
namespace Go.Proofs.YtcfgacdcgljbaaaGreatDoor
open Go.RowKit Go.Shelf
/-- What a month has. -/
def fAt (m : Int) : List Mon → Fig
  | [] => fig0
  | x :: xs => if x.n = m then x.f else fAt m xs
def inM (m : Int) (ms : List Mon) : Prop := ∃ x ∈ ms, x.n = m
theorem fAt_none {m : Int} : ∀ {a : List Mon}, (∀ x ∈ a, x.n ≠ m) → fAt m a = fig0
  | [], _ => rfl
  | x :: a, h => by
    unfold fAt
    rw [if_neg (h x List.mem_cons_self)]
    exact fAt_none fun y hy => h y (List.mem_cons_of_mem _ hy)
theorem fAt_app {m : Int} {b : List Mon} : ∀ {a : List Mon}, (∀ x ∈ a, x.n ≠ m) → fAt m (a ++ b) = fAt m b
  | [], _ => rfl
  | x :: a, h => by
    rw [List.cons_append, fAt, if_neg (h x List.mem_cons_self)]
    exact fAt_app fun y hy => h y (List.mem_cons_of_mem _ hy)
theorem fAt_last {m : Int} {y z : Mon} (hy : y.n ≠ m) (hz : z.n ≠ m) : ∀ a : List Mon, fAt m (a ++ [y]) = fAt m (a ++ [z])
  | [] => by simp [fAt, hy, hz]
  | x :: a => by
    rw [List.cons_append, List.cons_append, fAt, fAt, fAt_last hy hz a]
theorem fAt_drop {m : Int} {z : Mon} (hz : z.n ≠ m) : ∀ a : List Mon, fAt m (a ++ [z]) = fAt m a
  | [] => by simp [fAt, hz]
  | x :: a => by
    rw [List.cons_append, fAt, fAt, fAt_drop hz a]
theorem fAt_add {ms : List Mon} {hi N : Int} (h : Asc ms hi) (hN : hi ≤ N) (f : Fig) (x : Int) : fAt x (addM ms N f) = if x = N then (fAt N ms).plus f else fAt x ms := by
  rcases List.eq_nil_or_concat ms with rfl | ⟨a, m, rfl⟩
  · rw [addM_nil]
    unfold fAt
    by_cases e : x = N
    · subst e; simp
    · have e' : ¬ N = x := fun c => e c.symm
      simp [e, e', fAt]
  · rw [List.concat_eq_append] at h ⊢
    have hr := List.pairwise_append.1 h.row
    have hm := h.bd m (by simp)
    have hlt : ∀ y ∈ a, y.n < m.n := fun y hy => hr.2.2 y hy m (by simp)
    by_cases e : m.n = N
    · subst e
      rw [addM_same]
      have hno : ∀ y ∈ a, y.n ≠ m.n := fun y hy c => by have := hlt y hy; omega
      by_cases ex : x = m.n
      · subst ex
        rw [if_pos rfl, fAt_app hno, fAt_app hno]
        simp [fAt]
      · rw [if_neg ex]
        exact fAt_last (y := ⟨m.n, m.f.plus f⟩) (fun c => ex c.symm) (fun c => ex c.symm) a
    · rw [addM_other _ _ _ _ e]
      have hno : ∀ y ∈ a ++ [m], y.n ≠ N := fun y hy c => by
        rcases List.mem_append.1 hy with hy | hy
        · have := hlt y hy; omega
        · rw [List.mem_singleton] at hy; subst hy; exact e c
      by_cases ex : x = N
      · subst ex
        rw [if_pos rfl, fAt_app hno, fAt_none hno]
        simp [fAt]
      · rw [if_neg ex, fAt_drop (fun c => ex c.symm)]
theorem inM_add {ms : List Mon} (N : Int) (f : Fig) (x : Int) : inM x (addM ms N f) ↔ (x = N ∨ inM x ms) := by
  unfold inM
  rcases List.eq_nil_or_concat ms with rfl | ⟨a, m, rfl⟩
  · rw [addM_nil]; simp [eq_comm]
  · rw [List.concat_eq_append]
    by_cases e : m.n = N
    · subst e
      rw [addM_same]
      constructor
      · rintro ⟨y, hy, rfl⟩
        rcases List.mem_append.1 hy with hy | hy
        · exact Or.inr ⟨y, by simp [hy], rfl⟩
        · rw [List.mem_singleton] at hy; subst hy; exact Or.inl rfl
      · rintro (rfl | ⟨y, hy, rfl⟩)
        · exact ⟨⟨m.n, m.f.plus f⟩, by simp, rfl⟩
        · rcases List.mem_append.1 hy with hy | hy
          · exact ⟨y, by simp [hy], rfl⟩
          · rw [List.mem_singleton] at hy; subst hy; exact ⟨⟨y.n, y.f.plus f⟩, by simp, rfl⟩
    · rw [addM_other _ _ _ _ e]
      constructor
      · rintro ⟨y, hy, rfl⟩
        rcases List.mem_append.1 hy with hy | hy
        · exact Or.inr ⟨y, hy, rfl⟩
        · rw [List.mem_singleton] at hy; subst hy; exact Or.inl rfl
      · rintro (rfl | ⟨y, hy, rfl⟩)
        · exact ⟨⟨x, fig0.plus f⟩, by simp, rfl⟩
        · exact ⟨y, by rw [List.mem_append]; exact Or.inl hy, rfl⟩
/-- Months that are ascending tell what they have. -/
theorem fAt_mem : ∀ {ms : List Mon}, (ms.Pairwise fun a b => a.n < b.n) → ∀ {x : Mon}, x ∈ ms → fAt x.n ms = x.f
  | [], _, _, h => by cases h
  | y :: ms, hp, x, h => by
    rw [List.pairwise_cons] at hp
    rcases List.mem_cons.1 h with rfl | h
    · simp [fAt]
    · have := hp.1 x h
      rw [fAt, if_neg (by omega), fAt_mem hp.2 h]
theorem plus_swap (f a b : Fig) : (f.plus a).plus b = (f.plus b).plus a := by
  unfold Fig.plus
  have h : ∀ x y z : Int, wrap64 (wrap64 (x + y) + z) = wrap64 (wrap64 (x + z) + y) := fun x y z => by unfold wrap64; omega
  simp only [h f.inn a.inn, h f.out a.out, h f.loss a.loss, h f.gain a.gain, h f.late a.late]
theorem upto_perm (m : Int) {a b : List Mon} (h : a.Perm b) : ∀ f, upto m f a = upto m f b := by
  induction h with
  | nil => intro f; rfl
  | cons x _ ih => intro f; unfold upto; exact ih _
  | swap x y l =>
    intro f
    unfold upto
    unfold upto
    congr 1
    by_cases h1 : x.n ≤ m <;> by_cases h2 : y.n ≤ m <;> simp only [h1, h2, if_true, if_false]
    exact plus_swap f y.f x.f
  | trans _ _ ih1 ih2 => intro f; rw [ih1, ih2]
/-- All months, told in any order, are the months. -/
theorem perm_of {ms : List Mon} {hi : Int} (h : Asc ms hi) {S : List Int} (hS : S.Nodup) (hm : ∀ x, x ∈ S ↔ inM x ms) : (S.map fun x => (⟨x, fAt x ms⟩ : Mon)).Perm ms := by
  have hnd : ms.Nodup := h.row.imp fun {a b} hab e => by subst e; exact absurd hab (Int.lt_irrefl _)
  have hnd2 : (S.map fun x => (⟨x, fAt x ms⟩ : Mon)).Nodup := List.pairwise_map.2 (hS.imp fun hne e => hne (congrArg Mon.n e))
  refine (List.perm_ext_iff_of_nodup hnd2 hnd).2 fun y => ?_
  rw [List.mem_map]
  constructor
  · rintro ⟨x, hx, rfl⟩
    obtain ⟨z, hz, rfl⟩ := (hm x).1 hx
    rw [fAt_mem h.row hz]
    exact hz
  · intro hy
    exact ⟨y.n, (hm y.n).2 ⟨y, hy, rfl⟩, by rw [fAt_mem h.row hy]⟩
/-- What is open, as the document's own answer tells it. -/
theorem unp_minus : ∀ (cs : List Cl) (f g : Fig), unp (f.minus g) cs = f.minus (sumC g cs)
  | [], _, _ => rfl
  | c :: cs, f, g => by
    unfold unp sumC
    have e : (f.minus g).minus c.posted = f.minus (g.plus c.posted) := by
      have h : ∀ x y z : Int, wrap64 (wrap64 (x - y) - z) = wrap64 (x - wrap64 (y + z)) := fun x y z => by unfold wrap64; omega
      unfold Fig.minus Fig.plus
      simp only [h]
    rw [e, unp_minus cs]
theorem minus_zero {f : Fig} (h : f.ok) : f.minus fig0 = f := by
  obtain ⟨a, b, c, d, e⟩ := f
  obtain ⟨h1, h2, h3, h4, h5⟩ := h
  unfold I64 at h1 h2 h3 h4 h5
  simp only at h1 h2 h3 h4 h5
  unfold Fig.minus fig0
  simp only [Int.sub_zero, Fig.mk.injEq]
  unfold wrap64
  omega
theorem unp_is (cs : List Cl) {f : Fig} (h : f.ok) : unp f cs = f.minus (sumC fig0 cs) := by
  have := unp_minus cs f fig0
  rw [minus_zero h] at this
  exact this
end Go.Proofs.YtcfgacdcgljbaaaGreatDoor
namespace Go.Proofs.YtcfgacdcgljbaaaGreatDoor
open Go.RowKit Go.Maps
theorem wrap_one (a b : Int) : wrap64 (a + wrap64 (1 * b)) = wrap64 (a + b) := by unfold wrap64; omega
theorem wrap_neg (a b : Int) : wrap64 (a + wrap64 (-1 * b)) = wrap64 (a - b) := by unfold wrap64; omega
set_option maxHeartbeats 2000000 in
theorem radd_plus (a b : Fig) (w : World) : Calls Tryz.prog 47 #[figV a, figV b, .int .i64 1] w fun r w' => r = .returned (figV (a.plus b)) ∧ Below w.heap.size w w' := by
  obtain ⟨a1, a2, a3, a4, a5⟩ := a
  obtain ⟨b1, b2, b3, b4, b5⟩ := b
  unfold figV Fig.plus
  simp only
  rw [← wrap_one a1, ← wrap_one a2, ← wrap_one a3, ← wrap_one a4, ← wrap_one a5]
  go_enter Tryz.func47, Tryz.ntmps47
  go_wp2
  refine bodyPost_ret (v := .agg #[.int .i64 (wrap64 (a1 + wrap64 (1 * b1))), .int .i64 (wrap64 (a2 + wrap64 (1 * b2))), .int .i64 (wrap64 (a3 + wrap64 (1 * b3))), .int .i64 (wrap64 (a4 + wrap64 (1 * b4))), .int .i64 (wrap64 (a5 + wrap64 (1 * b5)))]) (by simp [results, Tryz.results47, go_sem]) rfl ⟨rfl, ?_⟩
  first | exact below3a _ _ _ _ | exact ((Below.refl _ _).alloc (Nat.le_refl _) _).alloc (by simp) _
set_option maxHeartbeats 2000000 in
theorem radd_minus (a b : Fig) (w : World) : Calls Tryz.prog 47 #[figV a, figV b, .int .i64 (-1)] w fun r w' => r = .returned (figV (a.minus b)) ∧ Below w.heap.size w w' := by
  obtain ⟨a1, a2, a3, a4, a5⟩ := a
  obtain ⟨b1, b2, b3, b4, b5⟩ := b
  unfold figV Fig.minus
  simp only
  rw [← wrap_neg a1, ← wrap_neg a2, ← wrap_neg a3, ← wrap_neg a4, ← wrap_neg a5]
  go_enter Tryz.func47, Tryz.ntmps47
  go_wp2
  refine bodyPost_ret (v := .agg #[.int .i64 (wrap64 (a1 + wrap64 (-1 * b1))), .int .i64 (wrap64 (a2 + wrap64 (-1 * b2))), .int .i64 (wrap64 (a3 + wrap64 (-1 * b3))), .int .i64 (wrap64 (a4 + wrap64 (-1 * b4))), .int .i64 (wrap64 (a5 + wrap64 (-1 * b5)))]) (by simp [results, Tryz.results47, go_sem]) rfl ⟨rfl, ?_⟩
  first | exact below3a _ _ _ _ | exact ((Below.refl _ _).alloc (Nat.le_refl _) _).alloc (by simp) _
theorem zero_figM (w : World) : (zeroValue 38).run Tryz.prog w = .ok (figV fig0) w := by kernel_rfl
/-- Figures by months. -/
structure FMap (W : World) (mb n : Nat) (D : DataW Value) (ms : List Mon) : Prop where
  map : W.ownsMap Tryz.prog 3 heldE mb n D
  at_ : ∀ x : Int, D.atKey (.int .i64 x) (.held (figV fig0)) = .held (figV (fAt x ms))
  has_ : ∀ x : Int, has D (.int .i64 x) = true ↔ inM x ms
section
variable {W w' : World} {mb n : Nat} {D : DataW Value} {ms : List Mon}
theorem FMap.same (h : FMap W mb n D ms) (e : w'.heap[mb]? = W.heap[mb]?) : FMap w' mb n D ms := ⟨map_same h.map e, h.at_, h.has_⟩
theorem FMap.below (h : FMap W mb n D ms) (hb : Below W.heap.size W w') : FMap w' mb n D ms := h.same (hb.block _ h.map.lt)
theorem FMap.lt (h : FMap W mb n D ms) : mb < W.heap.size := h.map.lt
theorem fmap_new (W : World) : FMap (W.alloc (.map #[] 0)) W.heap.size 0 (.map []) [] :=
  ⟨World.ownsMap_made W Tryz.prog 3 heldE, fun _ => rfl, fun x => by simp [has_eq, inM]⟩
theorem FMap.look (h : FMap W mb n D ms) (x : Int) (hx : (Lit.int .i64 x).wf = true) : (Instr.lookup 57 (.map (some mb)) (.int .i64 x) false).run Tryz.prog W = .ok (figV (fAt x ms)) W := by
  obtain ⟨v, ps, h1, h2⟩ := h.map.lookup law_intM Tryz.underlying57 (zero_figM W) (zd := .held (figV fig0)) (zp := []) rfl (key_intM x hx)
  have h3 := heldE_inv h2
  rw [h.at_ x] at h3
  rw [h1, ← held_inj h3]
theorem FMap.lookOk (h : FMap W mb n D ms) (x : Int) (hx : (Lit.int .i64 x).wf = true) (hd : inM x ms) : (Instr.lookup 57 (.map (some mb)) (.int .i64 x) true).run Tryz.prog W = .ok (.tuple #[figV (fAt x ms), .bool true]) W := by
  obtain ⟨v, ps, h1, h2⟩ := h.map.look_ok law_intM Tryz.underlying57 (zero_figM W) (zd := .held (figV fig0)) (zp := []) rfl (key_intM x hx)
  have h3 := heldE_inv h2
  rw [h.at_ x] at h3
  rw [(h.has_ x).2 hd] at h1
  rw [h1, ← held_inj h3]
theorem FMap.put {hi N : Int} {f : Fig} (h : FMap W mb n D ms) (ha : Asc ms hi) (hN : hi ≤ N) (hm : w'.ownsMap Tryz.prog 3 heldE mb (n + 1) (D.put (.int .i64 N) (.held (figV ((fAt N ms).plus f))))) :
    FMap w' mb (n + 1) (D.put (.int .i64 N) (.held (figV ((fAt N ms).plus f)))) (addM ms N f) := by
  have isM : IsMap D := (h.map.canon law_intM).imp fun es ⟨e, _⟩ => e
  refine ⟨hm, fun z => ?_, fun z => ?_⟩
  · rw [fAt_add ha hN]
    by_cases e : z = N
    · subst e; rw [if_pos rfl, atKey_put_same isM (show WideAt.IsKeyLit (.int .i64 z) from trivial)]
    · rw [if_neg e, atKey_put_other (fun c => e (by injection c)), h.at_]
  · rw [inM_add]
    by_cases e : z = N
    · subst e; simp [has_put_same isM (show WideAt.IsKeyLit (.int .i64 z) from trivial)]
    · rw [has_put_other (fun c => e (by injection c)), h.has_]; simp [e]
end
end Go.Proofs.YtcfgacdcgljbaaaGreatDoor
