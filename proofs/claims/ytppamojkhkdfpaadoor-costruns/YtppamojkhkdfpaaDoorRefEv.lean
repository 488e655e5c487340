/- The walks of tallymanref.Name, Right and Ahead. -/
import Derived.Test.YtppamojkhkdfpaaDoorBnC
import Derived.Test.YtppamojkhkdfpaaDoorBnN
namespace Go.Proofs.YtppamojkhkdfpaaDoor
open Go.RowKit
/-- One is ahead of another. -/
def Ahd (a b : Ev) : Prop := a.day < b.day ∨ (a.day = b.day ∧ (a.kind < b.kind ∨ (a.kind = b.kind ∧ a.id < b.id)))
theorem cmpI_cases (x y : Int) : (x < y ∧ cmpI x y = -1) ∨ (x = y ∧ cmpI x y = 0) ∨ (y < x ∧ cmpI x y = 1) := by
  unfold cmpI
  split
  · left; exact ⟨‹_›, rfl⟩
  · split
    · right; right; exact ⟨‹_›, rfl⟩
    · right; left; exact ⟨by omega, rfl⟩
theorem cmpE_cases (a b : Ev) : (Ahd a b ∧ cmpE a b = -1) ∨ ((a.day = b.day ∧ a.kind = b.kind ∧ a.id = b.id) ∧ cmpE a b = 0) ∨ (Ahd b a ∧ cmpE a b = 1) := by
  unfold cmpE Ahd orI
  rcases cmpI_cases a.day b.day with ⟨h1, e1⟩ | ⟨h1, e1⟩ | ⟨h1, e1⟩
  · rw [e1, if_neg (by decide)]; omega
  · rw [e1, if_pos rfl]
    rcases cmpI_cases a.kind b.kind with ⟨h2, e2⟩ | ⟨h2, e2⟩ | ⟨h2, e2⟩
    · rw [e2, if_neg (by decide)]; omega
    · rw [e2, if_pos rfl]
      rcases cmpI_cases a.id b.id with ⟨h3, e3⟩ | ⟨h3, e3⟩ | ⟨h3, e3⟩
      · rw [e3]; omega
      · rw [e3]; omega
      · rw [e3]; omega
    · rw [e2, if_neg (by decide)]; omega
  · rw [e1, if_neg (by decide)]; omega
set_option maxHeartbeats 2000000 in
theorem ahead_any (a b : Ev) (w : World) :
    Calls Tryd.prog 30 #[evV a, evV b] w fun x w' => Tells x (Ahd a b) ∧ Below w.heap.size w w' := by
  obtain ⟨id, item, kind, qty, price, ofI, day⟩ := a
  obtain ⟨id2, item2, kind2, qty2, price2, ofI2, day2⟩ := b
  have hb : Below w.heap.size w ((w.alloc (.cells #[.int .i64 id, .string item, .int .i64 kind, .int .i64 qty, .int .i64 price, .int .i64 ofI, .int .i64 day] 24)).alloc (.cells #[.int .i64 id2, .string item2, .int .i64 kind2, .int .i64 qty2, .int .i64 price2, .int .i64 ofI2, .int .i64 day2] 24)) := ((Below.refl _ _).alloc (Nat.le_refl _) _).alloc (by simp) _
  unfold evV
  simp only
  by_cases h1 : day = day2
  · by_cases h2 : kind = kind2
    · subst h1 h2
      go_enter Tryd.func30, Tryd.ntmps30
      go_wp2
      go_ret
      refine ⟨⟨decide (id < id2), rfl, ?_⟩, hb⟩
      unfold Ahd
      simp
    · subst h1
      go_enter Tryd.func30, Tryd.ntmps30
      go_wp2
      go_ret
      refine ⟨⟨decide (kind < kind2), rfl, ?_⟩, hb⟩
      unfold Ahd
      simp
      omega
  · go_enter Tryd.func30, Tryd.ntmps30
    go_wp2
    go_ret
    refine ⟨⟨decide (day < day2), rfl, ?_⟩, hb⟩
    unfold Ahd
    simp
    omega
set_option maxHeartbeats 2000000 in
theorem rname_any (s : ByteArray) (w : World) (hs : s.size ≤ maxLen) :
    Calls Tryd.prog 32 #[.string s] w fun e w' => Tells e (isName s.data.toList) ∧ w' = w := by
  unfold maxLen at hs
  go_enter Tryd.func32, Tryd.ntmps32
  go_wp2
  go_loop [7] (fun i => ∃ k : Nat, k ≤ s.size ∧ i = .int .i64 k ∧ ∀ (j : Nat) (hj : j < s.size), j < k → isLet s[j] ∨ (j ≠ 0 ∧ isDig s[j])) (fun i => s.size - (intOf i).toNat)
  case atStart => exact ⟨0, Nat.zero_le _, rfl, fun j _ hj => by omega⟩
  case round =>
    obtain ⟨k, hk, rfl, hall⟩ := hrel
    have HA := hidE hall
    clear hall
    by_cases hlt : k < s.size
    · have hck : s[k].toNat < 256 := s[k].toNat_lt
      by_cases a1 : 97 ≤ s[k].toNat ∧ s[k].toNat ≤ 122
      · obtain ⟨a1l, a1h⟩ := a1
        have b2 : decide ((s[k].toNat : Int) ≤ 122) = true := decide_eq_true (by omega)
        go_wp2
        go_round
        case rel => exact ⟨k + 1, by omega, by go_num, fun j hj hjk => by
          by_cases e : j = k
          · subst e; exact .inl ⟨a1l, a1h⟩
          · exact HA.out j hj (by omega)⟩
        case measure => simp [intOf]; omega
      · by_cases k0 : k = 0
        · subst k0
          have HF : Hid (¬ isName s.data.toList) := fun h => absurd (h.2.1 _ (ehead_is s hlt)) a1
          by_cases b1 : 97 ≤ s[0].toNat
          · have b2 : decide ((s[0].toNat : Int) ≤ 122) = false := decide_eq_false (by omega)
            clear a1
            go_wp2
            go_ret
            exact ⟨⟨false, rfl, ⟨fun h => (by cases h), fun h => absurd h HF.out⟩⟩, rfl⟩
          · clear a1
            go_wp2
            go_ret
            exact ⟨⟨false, rfl, ⟨fun h => (by cases h), fun h => absurd h HF.out⟩⟩, rfl⟩
        · by_cases a2 : 48 ≤ s[k].toNat ∧ s[k].toNat ≤ 57
          · obtain ⟨a2l, a2h⟩ := a2
            have b1 : ¬ 97 ≤ s[k].toNat := by omega
            have b4 : decide ((s[k].toNat : Int) ≤ 57) = true := decide_eq_true (by omega)
            have k9 : ¬ (k : Int) = 0 := by omega
            clear a1
            go_wp2
            go_round
            case rel => exact ⟨k + 1, by omega, by go_num, fun j hj hjk => by
              by_cases e : j = k
              · subst e; exact .inr ⟨k0, a2l, a2h⟩
              · exact HA.out j hj (by omega)⟩
            case measure => simp [intOf]; omega
          · have HF : Hid (¬ isName s.data.toList) := fun h => by
              rcases h.2.2 _ (at_mem s k hlt) with h | h
              · exact absurd h a1
              · exact absurd h a2
            by_cases b1 : 97 ≤ s[k].toNat
            · have b2 : decide ((s[k].toNat : Int) ≤ 122) = false := decide_eq_false (by omega)
              have b3 : 48 ≤ s[k].toNat := by omega
              have b4 : decide ((s[k].toNat : Int) ≤ 57) = false := decide_eq_false (by omega)
              have k9 : ¬ (k : Int) = 0 := by omega
              clear a1 a2
              go_wp2
              go_ret
              exact ⟨⟨false, rfl, ⟨fun h => (by cases h), fun h => absurd h HF.out⟩⟩, rfl⟩
            · by_cases b3 : 48 ≤ s[k].toNat
              · have b4 : decide ((s[k].toNat : Int) ≤ 57) = false := decide_eq_false (by omega)
                have k9 : ¬ (k : Int) = 0 := by omega
                clear a1 a2
                go_wp2
                go_ret
                exact ⟨⟨false, rfl, ⟨fun h => (by cases h), fun h => absurd h HF.out⟩⟩, rfl⟩
              · have k9 : ¬ (k : Int) = 0 := by omega
                clear a1 a2
                go_wp2
                go_ret
                exact ⟨⟨false, rfl, ⟨fun h => (by cases h), fun h => absurd h HF.out⟩⟩, rfl⟩
    · have HN : Hid (1 ≤ s.size → s.size ≤ 10 → isName s.data.toList) := by
        intro h1 h2
        refine ⟨⟨by rw [eba_len]; exact h1, by rw [eba_len]; exact h2⟩, ?_, ?_⟩
        · intro c hc
          rw [ehead_is s (by omega)] at hc
          cases hc
          rcases HA.out 0 (by omega) (by omega) with h | h
          · exact h
          · exact absurd rfl h.1
        · intro c hc
          obtain ⟨j, hj, rfl⟩ := mem_at s c hc
          rcases HA.out j hj (by omega) with h | h
          · exact .inl h
          · exact .inr h.2
      clear HA
      by_cases hin : 1 ≤ s.size ∧ s.size ≤ 10
      · go_wp2_with fail
        refine (in_yes (s.size : Int) 1 10 _ (by omega) (by omega)).mono ?_
        rintro e w' ⟨rfl, hw⟩
        subst w'
        go_wp2
        go_ret
        exact ⟨⟨true, rfl, ⟨fun _ => HN.out hin.1 hin.2, fun _ => rfl⟩⟩, rfl⟩
      · go_wp2_with fail
        refine (in_no (s.size : Int) 1 10 _ (by omega)).mono ?_
        rintro e w' ⟨rfl, hw⟩
        subst w'
        go_wp2
        go_ret
        exact ⟨⟨false, rfl, ⟨fun h => (by cases h), fun h => absurd ⟨by have := h.1.1; rw [eba_len] at this; exact this, by have := h.1.2; rw [eba_len] at this; exact this⟩ hin⟩⟩, rfl⟩
set_option maxHeartbeats 8000000 in
theorem rright_any (e : Ev) (w : World) (hw : EvW e) :
    Calls Tryd.prog 17 #[evV e] w fun x w' => Tells x (Rt e) ∧ Below w.heap.size w w' := by
  obtain ⟨id, item, kind, qty, price, ofI, day⟩ := e
  obtain ⟨_, hs, _, _, _, ho0, _⟩ := hw
  have ho : ofI ≤ 9223372036854775807 := (int_bd ho0).2
  clear ho0
  unfold evV
  simp only at hs ho ⊢
  by_cases k1 : kind = 1
  · subst k1
    have hb : Below w.heap.size w (w.alloc (.cells #[.int .i64 id, .string item, .int .i64 1, .int .i64 qty, .int .i64 price, .int .i64 ofI, .int .i64 day] 24)) := (Below.refl _ _).alloc (Nat.le_refl _) _
    by_cases hq : 1 ≤ qty ∧ qty ≤ 100000
    · skip
      by_cases hp : 0 ≤ price ∧ price ≤ 1000000
      · skip
        by_cases ho2 : ofI = 0
        · subst ho2
          go_enter Tryd.func17, Tryd.ntmps17
          go_wp2_with fail
          refine (in_yes qty 1 100000 _ (by omega) (by omega)).mono ?_
          rintro e w' ⟨rfl, hw⟩
          subst w'
          go_wp2_with fail
          refine (in_yes price 0 1000000 _ (by omega) (by omega)).mono ?_
          rintro e w' ⟨rfl, hw⟩
          subst w'
          go_wp2_with fail
          refine (rname_any item _ hs).mono ?_
          rintro e w' ⟨⟨b, rfl, hbn⟩, hw⟩
          subst w'
          have HB := hidE hbn
          clear hbn
          rcases b with _ | _
          · go_wp2
            go_ret
            exact ⟨⟨false, rfl, ⟨fun h => (by cases h), fun h => absurd (HB.out.2 h.1) (by simp)⟩⟩, hb⟩
          · by_cases hd : 0 ≤ day ∧ day ≤ 99999
            · skip
              go_wp2_with fail
              refine (in_yes day 0 99999 _ (by omega) (by omega)).mono ?_
              rintro e w' ⟨rfl, hw⟩
              subst w'
              go_wp2
              go_ret
              exact ⟨⟨true, rfl, ⟨fun _ => ⟨HB.out.1 (by trivial), hd, .inl ⟨rfl, hq, hp, rfl⟩⟩, fun _ => rfl⟩⟩, hb⟩
            · skip
              go_wp2_with fail
              refine (in_no day 0 99999 _ (by omega)).mono ?_
              rintro e w' ⟨rfl, hw⟩
              subst w'
              go_wp2
              go_ret
              exact ⟨⟨false, rfl, ⟨fun h => (by cases h), fun h => absurd h.2.1 hd⟩⟩, hb⟩
        · skip
          go_enter Tryd.func17, Tryd.ntmps17
          go_wp2_with fail
          refine (in_yes qty 1 100000 _ (by omega) (by omega)).mono ?_
          rintro e w' ⟨rfl, hw⟩
          subst w'
          go_wp2_with fail
          refine (in_yes price 0 1000000 _ (by omega) (by omega)).mono ?_
          rintro e w' ⟨rfl, hw⟩
          subst w'
          go_wp2
          go_ret
          exact ⟨⟨false, rfl, ⟨fun h => (by cases h), fun h => (by have hk := h.2.2; unfold rtK at hk; simp only at hk; omega)⟩⟩, hb⟩
      · skip
        go_enter Tryd.func17, Tryd.ntmps17
        go_wp2_with fail
        refine (in_yes qty 1 100000 _ (by omega) (by omega)).mono ?_
        rintro e w' ⟨rfl, hw⟩
        subst w'
        go_wp2_with fail
        refine (in_no price 0 1000000 _ (by omega)).mono ?_
        rintro e w' ⟨rfl, hw⟩
        subst w'
        go_wp2
        go_ret
        exact ⟨⟨false, rfl, ⟨fun h => (by cases h), fun h => (by have hk := h.2.2; unfold rtK at hk; simp only at hk; omega)⟩⟩, hb⟩
    · skip
      go_enter Tryd.func17, Tryd.ntmps17
      go_wp2_with fail
      refine (in_no qty 1 100000 _ (by omega)).mono ?_
      rintro e w' ⟨rfl, hw⟩
      subst w'
      go_wp2
      go_ret
      exact ⟨⟨false, rfl, ⟨fun h => (by cases h), fun h => (by have hk := h.2.2; unfold rtK at hk; simp only at hk; omega)⟩⟩, hb⟩
  by_cases k2 : kind = 2
  · subst k2
    have hb : Below w.heap.size w (w.alloc (.cells #[.int .i64 id, .string item, .int .i64 2, .int .i64 qty, .int .i64 price, .int .i64 ofI, .int .i64 day] 24)) := (Below.refl _ _).alloc (Nat.le_refl _) _
    by_cases hq : qty = 0
    · subst hq
      by_cases hp : 1 ≤ price ∧ price ≤ 100000000000
      · skip
        by_cases ho2 : 0 < ofI
        · skip
          go_enter Tryd.func17, Tryd.ntmps17
          go_wp2_with fail
          refine (in_yes price 1 100000000000 _ (by omega) (by omega)).mono ?_
          rintro e w' ⟨rfl, hw⟩
          subst w'
          go_wp2_with fail
          refine (rname_any item _ hs).mono ?_
          rintro e w' ⟨⟨b, rfl, hbn⟩, hw⟩
          subst w'
          have HB := hidE hbn
          clear hbn
          rcases b with _ | _
          · go_wp2
            go_ret
            exact ⟨⟨false, rfl, ⟨fun h => (by cases h), fun h => absurd (HB.out.2 h.1) (by simp)⟩⟩, hb⟩
          · by_cases hd : 0 ≤ day ∧ day ≤ 99999
            · skip
              go_wp2_with fail
              refine (in_yes day 0 99999 _ (by omega) (by omega)).mono ?_
              rintro e w' ⟨rfl, hw⟩
              subst w'
              go_wp2
              go_ret
              exact ⟨⟨true, rfl, ⟨fun _ => ⟨HB.out.1 (by trivial), hd, .inr (.inl ⟨rfl, rfl, hp, ⟨show 1 ≤ ofI by omega, ho⟩⟩)⟩, fun _ => rfl⟩⟩, hb⟩
            · skip
              go_wp2_with fail
              refine (in_no day 0 99999 _ (by omega)).mono ?_
              rintro e w' ⟨rfl, hw⟩
              subst w'
              go_wp2
              go_ret
              exact ⟨⟨false, rfl, ⟨fun h => (by cases h), fun h => absurd h.2.1 hd⟩⟩, hb⟩
        · skip
          go_enter Tryd.func17, Tryd.ntmps17
          go_wp2_with fail
          refine (in_yes price 1 100000000000 _ (by omega) (by omega)).mono ?_
          rintro e w' ⟨rfl, hw⟩
          subst w'
          go_wp2
          go_ret
          exact ⟨⟨false, rfl, ⟨fun h => (by cases h), fun h => (by have hk := h.2.2; unfold rtK at hk; simp only at hk; omega)⟩⟩, hb⟩
      · skip
        go_enter Tryd.func17, Tryd.ntmps17
        go_wp2_with fail
        refine (in_no price 1 100000000000 _ (by omega)).mono ?_
        rintro e w' ⟨rfl, hw⟩
        subst w'
        go_wp2
        go_ret
        exact ⟨⟨false, rfl, ⟨fun h => (by cases h), fun h => (by have hk := h.2.2; unfold rtK at hk; simp only at hk; omega)⟩⟩, hb⟩
    · skip
      go_enter Tryd.func17, Tryd.ntmps17
      go_wp2
      go_ret
      exact ⟨⟨false, rfl, ⟨fun h => (by cases h), fun h => (by have hk := h.2.2; unfold rtK at hk; simp only at hk; omega)⟩⟩, hb⟩
  by_cases k3 : kind = 3
  · subst k3
    have hb : Below w.heap.size w (w.alloc (.cells #[.int .i64 id, .string item, .int .i64 3, .int .i64 qty, .int .i64 price, .int .i64 ofI, .int .i64 day] 24)) := (Below.refl _ _).alloc (Nat.le_refl _) _
    by_cases hq : 1 ≤ qty ∧ qty ≤ 100000
    · skip
      by_cases hp : price = 0
      · subst hp
        by_cases ho2 : ofI = 0
        · subst ho2
          go_enter Tryd.func17, Tryd.ntmps17
          go_wp2_with fail
          refine (in_yes qty 1 100000 _ (by omega) (by omega)).mono ?_
          rintro e w' ⟨rfl, hw⟩
          subst w'
          go_wp2_with fail
          refine (rname_any item _ hs).mono ?_
          rintro e w' ⟨⟨b, rfl, hbn⟩, hw⟩
          subst w'
          have HB := hidE hbn
          clear hbn
          rcases b with _ | _
          · go_wp2
            go_ret
            exact ⟨⟨false, rfl, ⟨fun h => (by cases h), fun h => absurd (HB.out.2 h.1) (by simp)⟩⟩, hb⟩
          · by_cases hd : 0 ≤ day ∧ day ≤ 99999
            · skip
              go_wp2_with fail
              refine (in_yes day 0 99999 _ (by omega) (by omega)).mono ?_
              rintro e w' ⟨rfl, hw⟩
              subst w'
              go_wp2
              go_ret
              exact ⟨⟨true, rfl, ⟨fun _ => ⟨HB.out.1 (by trivial), hd, .inr (.inr (.inl ⟨rfl, hq, rfl, rfl⟩))⟩, fun _ => rfl⟩⟩, hb⟩
            · skip
              go_wp2_with fail
              refine (in_no day 0 99999 _ (by omega)).mono ?_
              rintro e w' ⟨rfl, hw⟩
              subst w'
              go_wp2
              go_ret
              exact ⟨⟨false, rfl, ⟨fun h => (by cases h), fun h => absurd h.2.1 hd⟩⟩, hb⟩
        · skip
          go_enter Tryd.func17, Tryd.ntmps17
          go_wp2_with fail
          refine (in_yes qty 1 100000 _ (by omega) (by omega)).mono ?_
          rintro e w' ⟨rfl, hw⟩
          subst w'
          go_wp2
          go_ret
          exact ⟨⟨false, rfl, ⟨fun h => (by cases h), fun h => (by have hk := h.2.2; unfold rtK at hk; simp only at hk; omega)⟩⟩, hb⟩
      · skip
        go_enter Tryd.func17, Tryd.ntmps17
        go_wp2_with fail
        refine (in_yes qty 1 100000 _ (by omega) (by omega)).mono ?_
        rintro e w' ⟨rfl, hw⟩
        subst w'
        go_wp2
        go_ret
        exact ⟨⟨false, rfl, ⟨fun h => (by cases h), fun h => (by have hk := h.2.2; unfold rtK at hk; simp only at hk; omega)⟩⟩, hb⟩
    · skip
      go_enter Tryd.func17, Tryd.ntmps17
      go_wp2_with fail
      refine (in_no qty 1 100000 _ (by omega)).mono ?_
      rintro e w' ⟨rfl, hw⟩
      subst w'
      go_wp2
      go_ret
      exact ⟨⟨false, rfl, ⟨fun h => (by cases h), fun h => (by have hk := h.2.2; unfold rtK at hk; simp only at hk; omega)⟩⟩, hb⟩
  by_cases k4 : kind = 4
  · subst k4
    have hb : Below w.heap.size w (w.alloc (.cells #[.int .i64 id, .string item, .int .i64 4, .int .i64 qty, .int .i64 price, .int .i64 ofI, .int .i64 day] 24)) := (Below.refl _ _).alloc (Nat.le_refl _) _
    by_cases hq : 0 ≤ qty ∧ qty ≤ 100000
    · skip
      by_cases hp : price = 0
      · subst hp
        by_cases ho2 : ofI = 0
        · subst ho2
          go_enter Tryd.func17, Tryd.ntmps17
          go_wp2_with fail
          refine (in_yes qty 0 100000 _ (by omega) (by omega)).mono ?_
          rintro e w' ⟨rfl, hw⟩
          subst w'
          go_wp2_with fail
          refine (rname_any item _ hs).mono ?_
          rintro e w' ⟨⟨b, rfl, hbn⟩, hw⟩
          subst w'
          have HB := hidE hbn
          clear hbn
          rcases b with _ | _
          · go_wp2
            go_ret
            exact ⟨⟨false, rfl, ⟨fun h => (by cases h), fun h => absurd (HB.out.2 h.1) (by simp)⟩⟩, hb⟩
          · by_cases hd : 0 ≤ day ∧ day ≤ 99999
            · skip
              go_wp2_with fail
              refine (in_yes day 0 99999 _ (by omega) (by omega)).mono ?_
              rintro e w' ⟨rfl, hw⟩
              subst w'
              go_wp2
              go_ret
              exact ⟨⟨true, rfl, ⟨fun _ => ⟨HB.out.1 (by trivial), hd, .inr (.inr (.inr ⟨rfl, hq, rfl, rfl⟩))⟩, fun _ => rfl⟩⟩, hb⟩
            · skip
              go_wp2_with fail
              refine (in_no day 0 99999 _ (by omega)).mono ?_
              rintro e w' ⟨rfl, hw⟩
              subst w'
              go_wp2
              go_ret
              exact ⟨⟨false, rfl, ⟨fun h => (by cases h), fun h => absurd h.2.1 hd⟩⟩, hb⟩
        · skip
          go_enter Tryd.func17, Tryd.ntmps17
          go_wp2_with fail
          refine (in_yes qty 0 100000 _ (by omega) (by omega)).mono ?_
          rintro e w' ⟨rfl, hw⟩
          subst w'
          go_wp2
          go_ret
          exact ⟨⟨false, rfl, ⟨fun h => (by cases h), fun h => (by have hk := h.2.2; unfold rtK at hk; simp only at hk; omega)⟩⟩, hb⟩
      · skip
        go_enter Tryd.func17, Tryd.ntmps17
        go_wp2_with fail
        refine (in_yes qty 0 100000 _ (by omega) (by omega)).mono ?_
        rintro e w' ⟨rfl, hw⟩
        subst w'
        go_wp2
        go_ret
        exact ⟨⟨false, rfl, ⟨fun h => (by cases h), fun h => (by have hk := h.2.2; unfold rtK at hk; simp only at hk; omega)⟩⟩, hb⟩
    · skip
      go_enter Tryd.func17, Tryd.ntmps17
      go_wp2_with fail
      refine (in_no qty 0 100000 _ (by omega)).mono ?_
      rintro e w' ⟨rfl, hw⟩
      subst w'
      go_wp2
      go_ret
      exact ⟨⟨false, rfl, ⟨fun h => (by cases h), fun h => (by have hk := h.2.2; unfold rtK at hk; simp only at hk; omega)⟩⟩, hb⟩
  have hb : Below w.heap.size w (w.alloc (.cells #[.int .i64 id, .string item, .int .i64 kind, .int .i64 qty, .int .i64 price, .int .i64 ofI, .int .i64 day] 24)) := (Below.refl _ _).alloc (Nat.le_refl _) _
  go_enter Tryd.func17, Tryd.ntmps17
  go_wp2
  go_ret
  exact ⟨⟨false, rfl, ⟨fun h => (by cases h), fun h => (by have hk := h.2.2; unfold rtK at hk; simp only at hk; omega)⟩⟩, hb⟩
end Go.Proofs.YtppamojkhkdfpaaDoor
