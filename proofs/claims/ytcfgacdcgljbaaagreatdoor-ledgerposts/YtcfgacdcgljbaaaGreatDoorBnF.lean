/- The plain mathematics of the document's own answer: numerals, and products digit by digit. The plain mathematics of package money's shares: no word of the program. The walks of money.share and money.Part: each returns what the plain mathematics says. The walks of tallymanref.mulDiv and Part. The plain mathematics of amounts as the document's own answer writes and reads them. The walks of tallymanref.Amount and tallymanref.ParseAmount. -/
import Derived.Test.YtcfgacdcgljbaaaGreatDoorBnC
import Derived.Lib.ItoaNum
import Derived.Test.YtcfgacdcgljbaaaGreatDoorBnA
import Derived.Test.YtcfgacdcgljbaaaGreatDoorGlob
import Derived.Laws.RangeString
import Derived.Lib.AppendIntMem
import Derived.Lib.Replace
import Derived.Lib.AtoiAll
namespace Go.Proofs.YtcfgacdcgljbaaaGreatDoor
theorem decDigits_dig : ∀ (m u : Nat), u ≤ m → ∀ c ∈ Lib.decDigits u, 48 ≤ c.toNat ∧ c.toNat ≤ 57
  | m, u, hm, c, hc => by
    by_cases h : u < 10
    · rw [Lib.decDigits, dif_pos h] at hc
      simp only [List.mem_singleton] at hc
      subst hc
      simp; omega
    · rw [Lib.decDigits, dif_neg h] at hc
      rcases List.mem_append.1 hc with hc | hc
      · match m, hm with
        | 0, hm => omega
        | m + 1, hm => exact decDigits_dig m (u / 10) (by omega) c hc
      · simp only [List.mem_singleton] at hc
        subst hc
        simp; omega
theorem val1_digit (n : Int) (c : UInt8) (h : 48 ≤ c.toNat ∧ c.toNat ≤ 57) : val1 n c = n * 10 + ((c.toNat : Int) - 48) := by
  unfold val1; rw [if_pos (by omega)]
theorem val_decDigits : ∀ (m u : Nat), u ≤ m → val (Lib.decDigits u) = (u : Int)
  | m, u, hm => by
    by_cases h : u < 10
    · rw [Lib.decDigits, dif_pos h]
      have : (UInt8.ofNat (48 + u)).toNat = 48 + u := by simp; omega
      unfold val
      simp only [List.foldl_cons, List.foldl_nil]
      rw [val1_digit _ _ (by omega), this]; omega
    · rw [Lib.decDigits, dif_neg h, val_snoc]
      have : (UInt8.ofNat (48 + u % 10)).toNat = 48 + u % 10 := by simp; omega
      match m, hm with
      | 0, hm => omega
      | m + 1, hm =>
        rw [val_decDigits m (u / 10) (by omega), val1_digit _ _ (by omega), this]; omega
theorem fold_ge : ∀ (l : List UInt8) (x : Int), 0 ≤ x → x ≤ l.foldl val1 x
  | [], x, _ => by simp
  | c :: l, x, h => by
    have h1 : 0 ≤ val1 x c ∧ x ≤ val1 x c := by unfold val1; split <;> omega
    have := fold_ge l (val1 x c) h1.1
    simp only [List.foldl_cons]; omega
theorem val_take_le (l : List UInt8) (k : Nat) : 0 ≤ val (l.take k) ∧ val (l.take k) ≤ val l := by
  have h0 := (val_bd (l.take k).length _ rfl).1
  refine ⟨h0, ?_⟩
  have e : val l = (l.drop k).foldl val1 (val (l.take k)) := by
    unfold val; rw [← List.foldl_append, List.take_append_drop]
  rw [e]; exact fold_ge _ _ h0
theorem digits_ne (u : Nat) : Lib.decDigits u ≠ [] := by
  intro h
  have := Lib.decDigits_length u
  rw [h] at this
  have := Lib.nDigits_pos u
  simp at *; omega
/-- One digit more: the quotient and the remainder of ten times so much and a digit. -/
theorem step_quo (a P d c : Int) (hc : 0 < c) :
    a * P / c * 10 + a * d / c + (a * P % c * 10 + a * d % c) / c = a * (P * 10 + d) / c ∧ (a * P % c * 10 + a * d % c) % c = a * (P * 10 + d) % c := by
  have h1 := Int.mul_ediv_add_emod (a * P) c
  have h2 := Int.mul_ediv_add_emod (a * d) c
  have e : a * (P * 10 + d) = (a * P % c * 10 + a * d % c) + c * (a * P / c * 10 + a * d / c) := by
    rw [Int.mul_add, ← Int.mul_assoc, Int.mul_add, ← Int.mul_assoc]; omega
  rw [e, Int.add_mul_ediv_left _ _ (by omega), Int.add_mul_emod_self_left]
  omega
end Go.Proofs.YtcfgacdcgljbaaaGreatDoor
namespace Go.Proofs.YtcfgacdcgljbaaaGreatDoor
/-- What part of a total goes with some of a whole. -/
def shr (t s w : Int) : Int := t * s / w
theorem shr_split (t s w : Int) (hw : 0 < w) : t / w * s + t % w * s / w = shr t s w := by
  unfold shr
  have e : t * s = t % w * s + w * (t / w * s) := by
    have h := Int.mul_ediv_add_emod t w
    calc t * s = (w * (t / w) + t % w) * s := by rw [h]
      _ = t % w * s + w * (t / w * s) := by rw [Int.add_mul, Int.mul_assoc, Int.add_comm]
  rw [e, Int.add_mul_ediv_left _ _ (by omega), Int.add_comm]
theorem shr_nonneg (t s w : Int) (ht : 0 ≤ t) (hs : 0 ≤ s) (hw : 0 < w) : 0 ≤ shr t s w :=
  Int.ediv_nonneg (Int.mul_nonneg ht hs) (Int.le_of_lt hw)
theorem shr_mono (t a b w : Int) (ht : 0 ≤ t) (hab : a ≤ b) (hw : 0 < w) : shr t a w ≤ shr t b w :=
  Int.ediv_le_ediv hw (Int.mul_le_mul_of_nonneg_left hab ht)
theorem shr_all (t w : Int) (hw : 0 < w) : shr t w w = t := Int.mul_ediv_cancel _ (by omega)
theorem shr_none (t w : Int) : shr t 0 w = 0 := by simp [shr]
theorem shr_le (t s w : Int) (ht : 0 ≤ t) (hs : s ≤ w) (hw : 0 < w) : shr t s w ≤ t := by
  have := shr_mono t s w w ht hs hw; rwa [shr_all t w hw] at this
/-- Bounds on the two products of the code. -/
theorem quo_bd (t s w : Int) (ht : 0 ≤ t) (hs : 0 ≤ s) (hsw : s ≤ w) (hw : 0 < w) : 0 ≤ t / w * s ∧ t / w * s ≤ t := by
  have h0 : 0 ≤ t / w := Int.ediv_nonneg ht (by omega)
  refine ⟨Int.mul_nonneg h0 hs, Int.le_trans (Int.mul_le_mul_of_nonneg_left hsw h0) ?_⟩
  exact Int.ediv_mul_le t (by omega)
theorem rem_bd (t s w B : Int) (hs : 0 ≤ s) (hsw : s ≤ w) (hw : 0 < w) (hB : w ≤ B) : 0 ≤ t % w * s ∧ t % w * s ≤ B * B ∧ 0 ≤ t % w * s / w ∧ t % w * s / w ≤ B := by
  have h0 : 0 ≤ t % w := Int.emod_nonneg t (by omega)
  have h1 : t % w < w := Int.emod_lt_of_pos t hw
  have a0 : 0 ≤ t % w * s := Int.mul_nonneg h0 hs
  have a1 : t % w * s ≤ w * w := Int.mul_le_mul (by omega) hsw hs (by omega)
  have a2 : w * w ≤ B * B := Int.mul_le_mul hB hB (by omega) (by omega)
  refine ⟨a0, by omega, Int.ediv_nonneg a0 (by omega), ?_⟩
  have : t % w * s / w ≤ w * w / w := Int.ediv_le_ediv hw a1
  rw [Int.mul_ediv_cancel _ (by omega)] at this
  omega
end Go.Proofs.YtcfgacdcgljbaaaGreatDoor
namespace Go.Proofs.YtcfgacdcgljbaaaGreatDoor
open Go.RowKit
set_option maxHeartbeats 1000000 in
theorem share_any (t s v : Int) (w : World) (ht : 0 ≤ t) (ht' : t ≤ 20000000000000) (hs : 0 ≤ s) (hsv : s ≤ v) (hv : 1 ≤ v) (hv' : v ≤ 100000000) :
    Calls Tryz.prog 269 #[.int .i64 t, .int .i64 s, .int .i64 v] w fun e w' => e = .returned (.int .i64 (shr t s v)) ∧ ∃ n, w' = w.drewN n := by
  have hq := quo_bd t s v ht hs hsv (by omega)
  have hr := rem_bd t s v 100000000 hs hsv (by omega) hv'
  have hm0 : 0 ≤ t % v := Int.emod_nonneg t (by omega)
  have hm1 : t % v < v := Int.emod_lt_of_pos t (by omega)
  have HS : Hid (t / v * s + t % v * s / v = shr t s v) := shr_split t s v (by omega)
  go_enter Tryz.func269, Tryz.ntmps269
  go_wp2
  go_quiet (fail)
  go_wp2
  go_ret
  exact ⟨ret_int HS.out, _, rfl⟩
set_option maxHeartbeats 1000000 in
theorem part_ok (t s v : Int) (w : World) (ht : 0 ≤ t) (ht' : t ≤ 20000000000000) (hs : 0 ≤ s) (hsv : s ≤ v) (hv : 1 ≤ v) (hv' : v ≤ 100000) :
    Calls Tryz.prog 248 #[.int .i64 t, .int .i64 s, .int .i64 v] w fun e w' => e = .returned (.tuple #[.int .i64 (shr t s v), .nilIface]) ∧ ∃ n, w' = w.drewN n := by
  go_enter Tryz.func248, Tryz.ntmps248
  go_wp2_with (go_at_call 269; refine (share_any _ _ _ _ ht ht' hs hsv hv (by omega)).mono ?_; rintro e w' ⟨rfl, n, rfl⟩)
  go_ret2
  exact ⟨rfl, _, rfl⟩
end Go.Proofs.YtcfgacdcgljbaaaGreatDoor
namespace Go.Proofs.YtcfgacdcgljbaaaGreatDoor
open Go.RowKit
theorem below_iter {w w1 : World} (hb : Below w.heap.size w w1) (s : ByteArray) (k : Nat) : Below w.heap.size w (w1.iter s k) := hb.alloc hb.size _
set_option maxHeartbeats 2000000 in
theorem mulDiv_any (a c : Int) (b : Nat) (w : World) (hg : Glob w) (ha : 0 ≤ a) (ha' : a ≤ 20000000000000) (hb : (b : Int) ≤ c) (hc : 1 ≤ c) (hc' : c ≤ 100000000) :
    Calls Tryz.prog 199 #[.int .i64 a, .int .i64 b, .int .i64 c] w fun e w' => e = .returned (.int .i64 (shr a b c)) ∧ Below w.heap.size w w' := by
  have HT : Hid (Lib.TabIs Tryz.prog w "internal/strconv.uint64pow10" .u64 Lib.pow10Tab) := hg.tab
  clear hg
  have hitoa : Lib.itoa (b : Int) = Lib.decDigits b := by unfold Lib.itoa; rw [if_neg (by omega)]; rfl
  obtain ⟨s, hs⟩ : ∃ s : ByteArray, s = ⟨(Lib.decDigits b).toArray⟩ := ⟨_, rfl⟩
  have hl : s.data.toList = Lib.decDigits b := by rw [hs]
  have HD : Hid (∀ k (h : k < s.size), 48 ≤ (s[k]'h).toNat ∧ (s[k]'h).toNat ≤ 57) := by
    intro k h
    refine decDigits_dig b b (Nat.le_refl _) _ ?_
    rw [← hl]
    exact List.getElem_mem (by simpa using h)
  have HV : Hid (val s.data.toList = (b : Int)) := by show _ = _; rw [hl]; exact val_decDigits b b (Nat.le_refl _)
  have HE : Hid (s = ⟨(Lib.decDigits b).toArray⟩) := hs
  have HI : Hid (Lib.itoa (b : Int) = Lib.decDigits b) := hitoa
  clear hl hs hitoa
  go_enter Tryz.func199, Tryz.ntmps199
  go_wp2_with (go_at_call 115; refine (Tryz.strconv_Itoa (b : Int) (by omega) (by omega) _ HT.out).mono ?_; rintro e w1 ⟨rfl, n1, os1, hw1⟩; rw [HI.out, ← HE.out]; have hb1 : Below w.heap.size w w1 := hw1 ▸ Lib.below_grow _ _ (Nat.le_refl _) _ _; clear hw1)
  clear HI HE HT
  go_loopw [7, 8] (fun q r wr => ∃ k : Nat, k ≤ s.size ∧ wr = w1.iter s k ∧ q = .int .i64 (a * val (s.data.toList.take k) / c) ∧ r = .int .i64 (a * val (s.data.toList.take k) % c)) (fun _ _ wr => s.size - wr.iterPos w1.heap.size)
  case atStart => exact ⟨0, Nat.zero_le _, rfl, by simp [val], by simp [val]⟩
  case round =>
    obtain ⟨k, hk, rfl, rfl, rfl⟩ := hrel
    have hpos : ∀ j, (w1.iter s j).iterPos w1.heap.size = j := fun j => iterPos_of (w1.iter_heap s j)
    have hv := val_take_le s.data.toList k
    rw [HV.out] at hv
    by_cases hlt : k < s.size
    · have hd := HD.out k hlt
      have HS : Hid (val (s.data.toList.take (k + 1)) = val (s.data.toList.take k) * 10 + ((s[k].toNat : Int) - 48)) := by
        show _ = _
        rw [take_snoc s k hlt, val_snoc, val1_digit _ _ hd]
      have hnx := fun ty => run_next_ascii (P := Tryz.prog) w1 s k ty hlt (by omega)
      have x0 : (48 : Int) ≤ (s[k].toNat : Int) := by omega
      have x1 : (s[k].toNat : Int) ≤ 57 := by omega
      generalize (s[k].toNat : Int) = x at hnx HS x0 x1
      generalize val (s.data.toList.take k) = P at hv HS
      have st := step_quo a P (x - 48) c (by omega)
      have HQ : Hid (a * P / c * 10 + a * (x - 48) / c + (a * P % c * 10 + a * (x - 48) % c) / c = a * (P * 10 + (x - 48)) / c) := st.1
      have HR : Hid ((a * P % c * 10 + a * (x - 48) % c) % c = a * (P * 10 + (x - 48)) % c) := st.2
      have q0 : 0 ≤ a * P / c := shr_nonneg a P c ha hv.1 (by omega)
      have q1 : a * P / c ≤ a := shr_le a P c ha (by omega) (by omega)
      have r0 : 0 ≤ a * P % c := Int.emod_nonneg _ (by omega)
      have r1 : a * P % c < c := Int.emod_lt_of_pos _ (by omega)
      have k0 : 0 ≤ a * (x - 48) := Int.mul_nonneg ha (by omega)
      have k1 : a * (x - 48) ≤ 20000000000000 * 9 := Int.mul_le_mul ha' (by omega) (by omega) (by omega)
      have k2 : 0 ≤ a * (x - 48) / c := Int.ediv_nonneg k0 (by omega)
      have k3 : a * (x - 48) / c ≤ a * (x - 48) := Int.ediv_le_self _ k0
      have k4 : 0 ≤ a * (x - 48) % c := Int.emod_nonneg _ (by omega)
      have k5 : a * (x - 48) % c < c := Int.emod_lt_of_pos _ (by omega)
      have k6 : 0 ≤ (a * P % c * 10 + a * (x - 48) % c) / c := Int.ediv_nonneg (by omega) (by omega)
      have k7 : (a * P % c * 10 + a * (x - 48) % c) / c ≤ a * P % c * 10 + a * (x - 48) % c := Int.ediv_le_self _ (by omega)
      clear st hd
      go_wp2
      go_roundw
      case rel => exact ⟨k + 1, by omega, rfl, by rw [HS.out, ← HQ.out], by rw [HS.out, ← HR.out]⟩
      case measure => rw [hpos, hpos]; omega
    · have hnx := fun ty => run_next_end (P := Tryz.prog) w1 s k ty hlt
      have ht : s.data.toList.take k = s.data.toList := List.take_of_length_le (by simp; omega)
      rw [ht, HV.out]
      clear ht
      go_wp2
      go_ret
      exact ⟨rfl, below_iter hb1 s k⟩
set_option maxHeartbeats 1000000 in
theorem refPart_ok (t s v : Int) (w : World) (hg : Glob w) (ht : 0 ≤ t) (ht' : t ≤ 20000000000000) (hs : 0 ≤ s) (hsv : s ≤ v) (hv : 1 ≤ v) (hv' : v ≤ 100000) :
    Calls Tryz.prog 142 #[.int .i64 t, .int .i64 s, .int .i64 v] w fun e w' => e = .returned (.tuple #[.int .i64 (shr t s v), .int .i64 0]) ∧ Below w.heap.size w w' := by
  obtain ⟨n, rfl⟩ : ∃ n : Nat, s = (n : Int) := ⟨s.toNat, by omega⟩
  have HG : Hid (Glob w) := hg
  clear hg
  go_enter Tryz.func142, Tryz.ntmps142
  go_wp2_with (first
    | (go_at_call 45; refine (in_yes _ _ _ _ (by omega) (by omega)).mono ?_; rintro e w' ⟨rfl, hw⟩; subst w')
    | (go_at_call 199; refine (mulDiv_any t v n _ HG.out ht ht' hsv hv (by omega)).mono ?_; rintro e w1 ⟨rfl, hb⟩))
  go_ret2
  exact ⟨rfl, hb⟩
set_option maxHeartbeats 1000000 in
theorem refPart_bad (t s v : Int) (w : World) (h : t < 0 ∨ 20000000000000 < t ∨ v < 1 ∨ 100000 < v ∨ s < 0 ∨ v < s) :
    Calls Tryz.prog 142 #[.int .i64 t, .int .i64 s, .int .i64 v] w fun e w' => e = .returned (.tuple #[.int .i64 0, .int .i64 1]) ∧ w' = w := by
  by_cases c1 : 0 ≤ t ∧ t ≤ 20000000000000
  · by_cases c2 : 1 ≤ v ∧ v ≤ 100000
    · have c3 : s < 0 ∨ v < s := by omega
      go_enter Tryz.func142, Tryz.ntmps142
      go_wp2_with (first
        | (go_at_call 45; refine (in_yes _ _ _ _ (by omega) (by omega)).mono ?_; rintro e w' ⟨rfl, hw⟩; subst w')
        | (go_at_call 45; refine (in_no _ _ _ _ (by omega)).mono ?_; rintro e w' ⟨rfl, hw⟩; subst w'))
      go_ret2
      exact ⟨rfl, rfl⟩
    · go_enter Tryz.func142, Tryz.ntmps142
      go_wp2_with (first
        | (go_at_call 45; refine (in_yes _ _ _ _ (by omega) (by omega)).mono ?_; rintro e w' ⟨rfl, hw⟩; subst w')
        | (go_at_call 45; refine (in_no _ _ _ _ (by omega)).mono ?_; rintro e w' ⟨rfl, hw⟩; subst w'))
      go_ret2
      exact ⟨rfl, rfl⟩
  · go_enter Tryz.func142, Tryz.ntmps142
    go_wp2_with (first
      | (go_at_call 45; refine (in_no _ _ _ _ (by omega)).mono ?_; rintro e w' ⟨rfl, hw⟩; subst w'))
    go_ret2
    exact ⟨rfl, rfl⟩
set_option maxHeartbeats 1000000 in
theorem part_bad (t s v : Int) (w : World) (h : t < 0 ∨ 20000000000000 < t ∨ v < 1 ∨ 100000 < v ∨ s < 0 ∨ v < s) :
    Calls Tryz.prog 248 #[.int .i64 t, .int .i64 s, .int .i64 v] w fun e w' => e = .returned (.tuple #[.int .i64 0, .iface 47 (.int .i64 1)]) ∧ w' = w := by
  have hcase : t < 0 ∨ (0 ≤ t ∧ 20000000000000 < t) ∨ ((0 ≤ t ∧ t ≤ 20000000000000) ∧ (v < 1 ∨ (1 ≤ v ∧ 100000 < v) ∨ (1 ≤ v ∧ v ≤ 100000 ∧ s < 0) ∨ (1 ≤ v ∧ v ≤ 100000 ∧ 0 ≤ s ∧ v < s))) := by omega
  clear h
  rcases hcase with c | ⟨c0, c⟩ | ⟨⟨c0, c1⟩, c | ⟨c2, c⟩ | ⟨c2, c3, c⟩ | ⟨c2, c3, c4, c⟩⟩
  all_goals
    go_enter Tryz.func248, Tryz.ntmps248
    go_wp2
    go_ret2
    exact ⟨rfl, rfl⟩
end Go.Proofs.YtcfgacdcgljbaaaGreatDoor
namespace Go.Proofs.YtcfgacdcgljbaaaGreatDoor
theorem wdN_nDigits (u : Nat) : wdN u = Lib.nDigits u := rfl
theorem byt_dg : ∀ (k q : Nat), byt (dg k (q : Int)) = (List.range k).map fun t => Lib.dg q (k - 1 - t)
  | 0, q => rfl
  | k + 1, q => by
    have e : 48 + dv k (q : Int) % 10 = ((48 + q / 10 ^ k % 10 : Nat) : Int) := by rw [dv_nat]; omega
    simp only [dg]
    rw [byt_cons, byt_dg k q, List.range_succ_eq_map, List.map_cons, List.map_map, e]
    congr 1
    apply List.map_congr_left
    intro t ht
    simp only [Function.comp]
    have : k + 1 - 1 - (t + 1) = k - 1 - t := by omega
    rw [this]
theorem byt_digits (q : Nat) : byt (dg (wdN q) (q : Int)) = Lib.decDigits q := by
  rw [byt_dg, Lib.decDigits_eq, wdN_nDigits q]
/-- Noughts ahead, till there are three signs. -/
def pad3 (l : List UInt8) : List UInt8 := List.replicate (3 - l.length) 48 ++ l
theorem pad3_step (l : List UInt8) (h : l.length < 3) : pad3 (48 :: l) = pad3 l := by
  unfold pad3
  obtain ⟨k, hk⟩ : ∃ k, 3 - l.length = k + 1 := ⟨3 - l.length - 1, by omega⟩
  have hk' : 3 - (48 :: l).length = k := by simp; omega
  rw [hk, hk', List.replicate_succ']
  simp
theorem pad3_long (l : List UInt8) (h : 3 ≤ l.length) : pad3 l = l := by
  unfold pad3; rw [show 3 - l.length = 0 by omega]; rfl
theorem dec2 (u : Nat) (h : u < 100) : byt (dg 2 (u : Int)) = [UInt8.ofNat (48 + u / 10), UInt8.ofNat (48 + u % 10)] := by
  rw [byt_dg]
  have e1 : u / 10 % 10 = u / 10 := by omega
  simp [List.range_succ, Lib.dg, e1]
theorem pad3_dec (u : Nat) : pad3 (Lib.decDigits u) = Lib.decDigits (u / 100) ++ byt (dg 2 ((u % 100 : Nat) : Int)) := by
  rw [dec2 _ (Nat.mod_lt _ (by omega))]
  by_cases h1 : u < 10
  · rw [Lib.decDigits_one h1, show u / 100 = 0 by omega, Lib.decDigits_one (by omega : 0 < 10)]
    rw [show u % 100 = u by omega, show u / 10 = 0 by omega, show u % 10 = u by omega]
    rfl
  · by_cases h2 : u < 100
    · rw [Lib.decDigits_two h1 h2, show u / 100 = 0 by omega, Lib.decDigits_one (by omega : 0 < 10), show u % 100 = u by omega]
      rfl
    · have e1 : Lib.decDigits u = Lib.decDigits (u / 10) ++ [UInt8.ofNat (48 + u % 10)] := by
        rw [Lib.decDigits, dif_neg (by omega)]
      have e2 : Lib.decDigits (u / 10) = Lib.decDigits (u / 100) ++ [UInt8.ofNat (48 + u / 10 % 10)] := by
        rw [Lib.decDigits, dif_neg (by omega), Nat.div_div_eq_div_mul]
      have hp := Lib.nDigits_pos (u / 100)
      rw [pad3_long]
      · rw [e1, e2, show u % 100 / 10 = u / 10 % 10 by omega, show u % 100 % 10 = u % 10 by omega]; simp
      · rw [e1, e2]; simp [Lib.decDigits_length]; omega
/-- What stands ahead of the last two signs, a point, and those. -/
theorem amount_is (n : Int) : byt (amt n) = (if n < 0 then [45] else []) ++ (pad3 (Lib.decDigits n.natAbs)).take ((pad3 (Lib.decDigits n.natAbs)).length - 2) ++ [46] ++ (pad3 (Lib.decDigits n.natAbs)).drop ((pad3 (Lib.decDigits n.natAbs)).length - 2) := by
  have hl : (byt (dg 2 ((n.natAbs % 100 : Nat) : Int))).length = 2 := by rw [byt_length, dg_length]
  rw [pad3_dec]
  have e : (Lib.decDigits (n.natAbs / 100) ++ byt (dg 2 ((n.natAbs % 100 : Nat) : Int))).length - 2 = (Lib.decDigits (n.natAbs / 100)).length := by
    rw [List.length_append, hl]; omega
  rw [e, List.take_left', List.drop_left' rfl]
  · unfold amt amtSize
    rw [byt_append, byt_append, byt_cons, byt_digits]
    have e0 : byt (if n < 0 then [45] else []) = if n < 0 then [45] else [] := by split <;> rfl
    rw [e0]
    simp
  · rfl
end Go.Proofs.YtcfgacdcgljbaaaGreatDoor
namespace Go.Proofs.YtcfgacdcgljbaaaGreatDoor
open Go.RowKit
def strSize : Value → Nat | .string s => s.size | _ => 0
theorem ba_append (a b : ByteArray) : (a ++ b).data.toList = a.data.toList ++ b.data.toList := by simp
theorem ba_extract (x : ByteArray) (a b : Nat) : (x.extract a b).data.toList = (x.data.toList.take b).drop a := by
  rw [ByteArray.data_extract, Array.toList_extract, List.drop_take]
theorem ba_len (x : ByteArray) : x.data.toList.length = x.size := by simp
theorem nought_size (x : ByteArray) : ((⟨#[48]⟩ : ByteArray) ++ x).size = x.size + 1 := by
  rw [← ba_len, ba_append, List.length_append, ba_len x]; show 1 + x.size = _; omega
theorem nought_list (x : ByteArray) : ((⟨#[48]⟩ : ByteArray) ++ x).data.toList = 48 :: x.data.toList := by rw [ba_append]; rfl
/-- What is written behind the padding. -/
theorem amount_end (n : Int) (sg x s : ByteArray) (hsg : sg.data.toList = if n < 0 then [45] else []) (hs : s.data.toList = Lib.decDigits n.natAbs) (hp : pad3 x.data.toList = pad3 s.data.toList) (h3 : 3 ≤ x.size) :
    (sg ++ x.extract 0 (x.size - 2) ++ ⟨#[46]⟩ ++ x.extract (x.size - 2) x.size).data.toList = byt (amt n) := by
  have e : x.data.toList = pad3 (Lib.decDigits n.natAbs) := by rw [← hs, ← hp, pad3_long _ (by rw [ba_len]; exact h3)]
  rw [amount_is, ← e, ba_append, ba_append, ba_append, ba_extract, ba_extract, hsg, ba_len]
  rw [List.take_of_length_le (l := x.data.toList) (i := x.size) (by rw [ba_len]; exact Nat.le_refl _)]
  simp
set_option maxHeartbeats 2000000 in
theorem amount_pos (n : Nat) (w : World) (hg : Glob w) (h1 : n ≤ 9223372036854775807) :
    Calls Tryz.prog 69 #[.int .i64 n] w fun e w' => e = .returned (.string ⟨(byt (amt n)).toArray⟩) ∧ Below w.heap.size w w' := by
  have HT : Hid (Lib.TabIs Tryz.prog w "internal/strconv.uint64pow10" .u64 Lib.pow10Tab) := hg.tab
  clear hg
  obtain ⟨s, hs⟩ : ∃ s : ByteArray, s = ⟨(Lib.itoa (n : Int)).toArray⟩ := ⟨_, rfl⟩
  have hitoa : Lib.itoa (n : Int) = Lib.decDigits n := by unfold Lib.itoa; rw [if_neg (by omega)]; rfl
  have hl : s.data.toList = Lib.decDigits n := by rw [hs, hitoa]
  have hlen : s.size = Lib.nDigits n := by rw [← Lib.decDigits_length, ← hl]; simp
  have hp : 0 < s.size := by rw [hlen]; exact Lib.nDigits_pos n
  have hsz : s.size ≤ 20 := by
    rw [hlen, ← wdN_nDigits n]; exact (wdN_le 20 n (by omega) (by omega)).2
  have hne : (s[0].toNat : Int) ≠ 45 := by
    have := decDigits_dig n n (Nat.le_refl _) s[0] (by rw [← hl]; exact List.getElem_mem (by simpa using hp))
    omega
  have HE : Hid (s = ⟨(Lib.itoa (n : Int)).toArray⟩) := hs
  have HL : Hid (s.data.toList = Lib.decDigits n) := hl
  clear hs hitoa hl hlen
  go_enter Tryz.func69, Tryz.ntmps69
  go_wp2_with (go_at_call 115; refine (Tryz.strconv_Itoa (n : Int) (by omega) (by omega) _ HT.out).mono ?_; rintro e w1 ⟨rfl, n1, os1, hw1⟩; rw [← HE.out]; have hb1 : Below w.heap.size w w1 := hw1 ▸ Lib.below_grow _ _ (Nat.le_refl _) _ _; clear hw1)
  go_loop [3] (fun v => ∃ x : ByteArray, v = .string x ∧ 1 ≤ x.size ∧ x.size ≤ 20 ∧ pad3 x.data.toList = pad3 s.data.toList) (fun v => 3 - strSize v)
  case atStart => exact ⟨s, rfl, hp, hsz, rfl⟩
  case round =>
    obtain ⟨x, rfl, x1, x2, hpad⟩ := hrel
    have HP : Hid (pad3 x.data.toList = pad3 s.data.toList) := hpad
    clear hpad
    by_cases hlt : x.size < 3
    · go_wp2
      go_round
      case rel =>
        refine ⟨_, rfl, ?_, ?_, ?_⟩
        · rw [nought_size]; omega
        · rw [nought_size]; omega
        · rw [nought_list, ← HP.out]; exact pad3_step _ (by rw [ba_len]; exact hlt)
      case measure => simp only [strSize]; rw [nought_size]; omega
    · go_wp2
      go_quiet (fail)
      go_wp2
      go_ret
      refine ⟨ret_str ?_, below_drewN hb1 _⟩
      exact amount_end (n : Int) ⟨#[]⟩ x s (by rw [if_neg (by omega)]) HL.out HP.out (by omega)
set_option maxHeartbeats 2000000 in
theorem amount_neg (m : Nat) (w : World) (hg : Glob w) (h0 : 1 ≤ m) (h1 : m ≤ 9223372036854775808) :
    Calls Tryz.prog 69 #[.int .i64 (-(m : Int))] w fun e w' => e = .returned (.string ⟨(byt (amt (-(m : Int)))).toArray⟩) ∧ Below w.heap.size w w' := by
  have HT : Hid (Lib.TabIs Tryz.prog w "internal/strconv.uint64pow10" .u64 Lib.pow10Tab) := hg.tab
  clear hg
  obtain ⟨s, hs⟩ : ∃ s : ByteArray, s = ⟨(Lib.itoa (-(m : Int))).toArray⟩ := ⟨_, rfl⟩
  have hitoa : Lib.itoa (-(m : Int)) = 45 :: Lib.decDigits m := by
    unfold Lib.itoa; rw [if_pos (by omega)]; congr 2; omega
  have hl : s.data.toList = 45 :: Lib.decDigits m := by rw [hs, hitoa]
  have hlen : s.size = Lib.nDigits m + 1 := by rw [← ba_len, hl, List.length_cons, Lib.decDigits_length]
  have hp : 1 < s.size := by have := Lib.nDigits_pos m; omega
  have hsz : s.size ≤ 21 := by
    rw [hlen, ← wdN_nDigits m]; have := (wdN_le 20 m (by omega) (by omega)).2; omega
  have hp0 : 0 < s.size := by omega
  have hne : ((s[0]'hp0).toNat : Int) = 45 := by
    have : s.data.toList.head? = some (s[0]'hp0) := head_is s hp0
    rw [hl] at this
    simp at this
    rw [← this]; rfl
  have hx : (s.extract 1 s.size).data.toList = Lib.decDigits m := by
    rw [ba_extract, List.take_of_length_le (by rw [ba_len]; exact Nat.le_refl _), hl]; rfl
  have hxs : (s.extract 1 s.size).size = s.size - 1 := by rw [← ba_len, hx, Lib.decDigits_length]; omega
  have HE : Hid (s = ⟨(Lib.itoa (-(m : Int))).toArray⟩) := hs
  have HL : Hid ((s.extract 1 s.size).data.toList = Lib.decDigits m) := hx
  have HX : Hid ((s.extract 1 s.size).size = s.size - 1) := hxs
  clear hs hitoa hl hlen hx hxs
  go_enter Tryz.func69, Tryz.ntmps69
  go_wp2_with (go_at_call 115; refine (Tryz.strconv_Itoa (-(m : Int)) (by omega) (by omega) _ HT.out).mono ?_; rintro e w1 ⟨rfl, n1, os1, hw1⟩; rw [← HE.out]; have hb1 : Below w.heap.size w w1 := hw1 ▸ Lib.below_grow _ _ (Nat.le_refl _) _ _; clear hw1)
  go_quiet (fail)
  go_wp2
  go_loop [3] (fun v => ∃ x : ByteArray, v = .string x ∧ 1 ≤ x.size ∧ x.size ≤ 20 ∧ pad3 x.data.toList = pad3 (s.extract 1 s.size).data.toList) (fun v => 3 - strSize v)
  case atStart => exact ⟨s.extract 1 s.size, rfl, by rw [HX.out]; omega, by rw [HX.out]; omega, rfl⟩
  case round =>
    obtain ⟨x, rfl, x1, x2, hpad⟩ := hrel
    have HP : Hid (pad3 x.data.toList = pad3 (s.extract 1 s.size).data.toList) := hpad
    clear hpad
    by_cases hlt : x.size < 3
    · go_wp2
      go_round
      case rel =>
        refine ⟨_, rfl, ?_, ?_, ?_⟩
        · rw [nought_size]; omega
        · rw [nought_size]; omega
        · rw [nought_list, ← HP.out]; exact pad3_step _ (by rw [ba_len]; exact hlt)
      case measure => simp only [strSize]; rw [nought_size]; omega
    · go_wp2
      go_quiet (fail)
      go_wp2
      go_ret
      refine ⟨ret_str ?_, below_drewN (below_drewN hb1 _) _⟩
      exact amount_end (-(m : Int)) ⟨#[45]⟩ x (s.extract 1 s.size) (by rw [if_pos (by omega)]) (by rw [HL.out]; congr 1; omega) HP.out (by omega)
theorem amount_any (n : Int) (w : World) (hg : Glob w) (h0 : -9223372036854775808 ≤ n) (h1 : n ≤ 9223372036854775807) :
    Calls Tryz.prog 69 #[.int .i64 n] w fun e w' => e = .returned (.string ⟨(byt (amt n)).toArray⟩) ∧ Below w.heap.size w w' := by
  by_cases h : n < 0
  · obtain ⟨m, rfl⟩ : ∃ m : Nat, n = -(m : Int) := ⟨n.natAbs, by omega⟩
    exact amount_neg m w hg (by omega) (by omega)
  · obtain ⟨m, rfl⟩ : ∃ m : Nat, n = (m : Int) := ⟨n.natAbs, by omega⟩
    exact amount_pos m w hg (by omega)
end Go.Proofs.YtcfgacdcgljbaaaGreatDoor
