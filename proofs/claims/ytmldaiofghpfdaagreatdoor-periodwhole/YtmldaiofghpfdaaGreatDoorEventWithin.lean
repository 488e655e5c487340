/- The walks of event.letter, event.digit, event.Name, event.within and the function within it. -/
import Derived.Test.YtmldaiofghpfdaaGreatDoorEventOpen
import Derived.Test.YtmldaiofghpfdaaGreatDoorBnMix
namespace Go.Proofs.YtmldaiofghpfdaaGreatDoor
open Go.RowKit
theorem eret_bool {a b : Bool} (h : a = b) : Ending.returned (.bool a) = .returned (.bool b) := by rw [h]
/-- It returns a Bool, true just where p holds. -/
def Tells (e : Ending) (p : Prop) : Prop := ∃ b : Bool, e = .returned (.bool b) ∧ (b = true ↔ p)
theorem within1_yes (n l h : Int) (a b : Addr) (w : World) (ha : w.cell? a = some (.int .i64 l)) (hb : w.cell? b = some (.int .i64 h)) (h1 : l ≤ n) (h2 : n ≤ h) :
    Calls Tryz.prog 118 #[.int .i64 n, .pointer (some a), .pointer (some b)] w fun e w' => e = .returned (.bool true) ∧ w' = w := by
  go_enter Tryz.func118, Tryz.ntmps118
  go_wp2
  go_ret
  exact ⟨rfl, rfl⟩
theorem within1_no (n l h : Int) (a b : Addr) (w : World) (ha : w.cell? a = some (.int .i64 l)) (hb : w.cell? b = some (.int .i64 h)) (h1 : ¬ (l ≤ n ∧ n ≤ h)) :
    Calls Tryz.prog 118 #[.int .i64 n, .pointer (some a), .pointer (some b)] w fun e w' => e = .returned (.bool false) ∧ w' = w := by
  by_cases c : l ≤ n
  · have c2 : ¬ n ≤ h := by omega
    clear h1
    go_enter Tryz.func118, Tryz.ntmps118
    go_wp2
    go_ret
    exact ⟨eret_bool (by simp), rfl⟩
  · clear h1
    go_enter Tryz.func118, Tryz.ntmps118
    go_wp2
    go_ret
    exact ⟨rfl, rfl⟩
theorem within_any (l h : Int) (w : World) :
    Calls Tryz.prog 85 #[.int .i64 l, .int .i64 h] w fun e w' => e = .returned (.func (.func 118) #[] #[.pointer (some ⟨w.heap.size, 0, none⟩), .pointer (some ⟨w.heap.size + 1, 0, none⟩)]) ∧ w' = (w.alloc (.cells #[.int .i64 l] 3)).alloc (.cells #[.int .i64 h] 3) := by
  go_enter Tryz.func85, Tryz.ntmps85
  go_wp2
  go_ret
  exact ⟨rfl, rfl⟩
theorem letter_yes (c : Nat) (w : World) (h1 : 97 ≤ c) (h2 : c ≤ 122) :
    Calls Tryz.prog 116 #[.int .u8 c] w fun e w' => e = .returned (.bool true) ∧ w' = w := by
  go_enter Tryz.func116, Tryz.ntmps116
  go_wp2
  go_ret
  exact ⟨eret_bool (by simp; omega), rfl⟩
theorem letter_no (c : Nat) (w : World) (h1 : ¬ (97 ≤ c ∧ c ≤ 122)) :
    Calls Tryz.prog 116 #[.int .u8 c] w fun e w' => e = .returned (.bool false) ∧ w' = w := by
  by_cases h : 97 ≤ c
  · have h2 : ¬ c ≤ 122 := by omega
    clear h1
    go_enter Tryz.func116, Tryz.ntmps116
    go_wp2
    go_ret
    exact ⟨eret_bool (by simp; omega), rfl⟩
  · clear h1
    go_enter Tryz.func116, Tryz.ntmps116
    go_wp2
    go_ret
    exact ⟨rfl, rfl⟩
theorem digit_yes (c : Nat) (w : World) (h1 : 48 ≤ c) (h2 : c ≤ 57) :
    Calls Tryz.prog 117 #[.int .u8 c] w fun e w' => e = .returned (.bool true) ∧ w' = w := by
  go_enter Tryz.func117, Tryz.ntmps117
  go_wp2
  go_ret
  exact ⟨eret_bool (by simp; omega), rfl⟩
theorem digit_no (c : Nat) (w : World) (h1 : ¬ (48 ≤ c ∧ c ≤ 57)) :
    Calls Tryz.prog 117 #[.int .u8 c] w fun e w' => e = .returned (.bool false) ∧ w' = w := by
  by_cases h : 48 ≤ c
  · have h2 : ¬ c ≤ 57 := by omega
    clear h1
    go_enter Tryz.func117, Tryz.ntmps117
    go_wp2
    go_ret
    exact ⟨eret_bool (by simp; omega), rfl⟩
  · clear h1
    go_enter Tryz.func117, Tryz.ntmps117
    go_wp2
    go_ret
    exact ⟨rfl, rfl⟩
theorem ehead_is (s : ByteArray) (h : 0 < s.size) : s.data.toList.head? = some s[0] := ebh_is s h
theorem mem_at (s : ByteArray) (c : UInt8) (h : c ∈ s.data.toList) : ∃ (k : Nat) (hk : k < s.size), s[k] = c := by
  obtain ⟨k, hk, e⟩ := List.getElem_of_mem h
  exact ⟨k, by rw [eba_len] at hk; exact hk, e⟩
theorem at_mem (s : ByteArray) (k : Nat) (hk : k < s.size) : s[k] ∈ s.data.toList := List.getElem_mem (by rw [eba_len]; exact hk)
set_option maxHeartbeats 1000000 in
/-- event.Name: true just where it is a name. -/
theorem name_any (s : ByteArray) (w : World) (hs : s.size ≤ maxLen) :
    Calls Tryz.prog 84 #[.string s] w fun e w' => Tells e (isName s.data.toList) ∧ w' = w := by
  unfold maxLen at hs
  by_cases h0 : s.size < 1
  · go_enter Tryz.func84, Tryz.ntmps84
    go_wp2
    go_ret
    refine ⟨⟨false, rfl, ?_⟩, rfl⟩
    constructor
    · intro h; cases h
    · intro h; have := h.1.1; rw [eba_len] at this; omega
  · by_cases h10 : 10 < s.size
    · go_enter Tryz.func84, Tryz.ntmps84
      go_wp2
      go_ret
      refine ⟨⟨false, rfl, ?_⟩, rfl⟩
      constructor
      · intro h; cases h
      · intro h; have := h.1.2; rw [eba_len] at this; omega
    · have hp : 0 < s.size := by omega
      have hc0 : s[0].toNat < 256 := s[0].toNat_lt
      by_cases hl : 97 ≤ s[0].toNat ∧ s[0].toNat ≤ 122
      · go_enter Tryz.func84, Tryz.ntmps84
        go_wp2_with (go_at_call 116; refine (letter_yes s[0].toNat _ hl.1 hl.2).mono ?_; rintro e w' ⟨rfl, rfl⟩)
        go_loop [20] (fun i => ∃ k : Nat, k ≤ s.size ∧ i = .int .i64 k ∧ ∀ (j : Nat) (hj : j < s.size), j < k → isLet s[j] ∨ isDig s[j]) (fun i => s.size - (intOf i).toNat)
        case atStart => exact ⟨0, Nat.zero_le _, rfl, fun j _ hj => by omega⟩
        case round =>
          obtain ⟨k, hk, rfl, hall⟩ := hrel
          have HA := hidE hall
          clear hall
          by_cases hlt : k < s.size
          · have hck : s[k].toNat < 256 := s[k].toNat_lt
            by_cases a1 : 97 ≤ s[k].toNat ∧ s[k].toNat ≤ 122
            · go_wp2_with (go_at_call 116; refine (letter_yes s[k].toNat _ a1.1 a1.2).mono ?_; rintro e w' ⟨rfl, rfl⟩)
              go_round
              case rel => exact ⟨k + 1, by omega, by go_num, fun j hj hjk => by
                by_cases e : j = k
                · subst e; exact .inl a1
                · exact HA.out j hj (by omega)⟩
              case measure => simp [intOf]; omega
            · by_cases a2 : 48 ≤ s[k].toNat ∧ s[k].toNat ≤ 57
              · go_wp2_with (first | (go_at_call 116; refine (letter_no s[k].toNat _ a1).mono ?_; rintro e w' ⟨rfl, rfl⟩) | (go_at_call 117; refine (digit_yes s[k].toNat _ a2.1 a2.2).mono ?_; rintro e w' ⟨rfl, rfl⟩))
                go_round
                case rel => exact ⟨k + 1, by omega, by go_num, fun j hj hjk => by
                  by_cases e : j = k
                  · subst e; exact .inr a2
                  · exact HA.out j hj (by omega)⟩
                case measure => simp [intOf]; omega
              · go_wp2_with (first | (go_at_call 116; refine (letter_no s[k].toNat _ a1).mono ?_; rintro e w' ⟨rfl, rfl⟩) | (go_at_call 117; refine (digit_no s[k].toNat _ a2).mono ?_; rintro e w' ⟨rfl, rfl⟩))
                go_ret
                refine ⟨⟨false, rfl, ?_⟩, rfl⟩
                constructor
                · intro h; cases h
                · intro h
                  rcases h.2.2 _ (at_mem s k hlt) with h | h
                  · exact absurd h a1
                  · exact absurd h a2
          · go_wp2
            go_ret
            refine ⟨⟨true, rfl, ?_⟩, rfl⟩
            constructor
            · intro _
              refine ⟨⟨by rw [eba_len]; omega, by rw [eba_len]; omega⟩, ?_, ?_⟩
              · intro c hc
                rw [ehead_is s hp] at hc
                cases hc
                exact hl
              · intro c hc
                obtain ⟨j, hj, rfl⟩ := mem_at s c hc
                exact HA.out j hj (by omega)
            · intro _; rfl
      · go_enter Tryz.func84, Tryz.ntmps84
        go_wp2_with (go_at_call 116; refine (letter_no s[0].toNat _ hl).mono ?_; rintro e w' ⟨rfl, rfl⟩)
        go_ret
        refine ⟨⟨false, rfl, ?_⟩, rfl⟩
        constructor
        · intro h; cases h
        · intro h
          exact absurd (h.2.1 _ (ehead_is s hp)) hl
end Go.Proofs.YtmldaiofghpfdaaGreatDoor
