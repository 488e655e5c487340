/- sort.symMerge_func, whole. -/
import Derived.Test.YtcfgacdcgljbaaaGreatDoorStMerge
import Derived.Deep.DeepCutAuto
namespace Go.Proofs.YtcfgacdcgljbaaaGreatDoor
open Go.RowKit
open Go.Sort hiding Below
open Go.Shelf
variable {α : Type} [Inhabited α]
section
variable {lt : α → α → Bool}
variable {g : Nat} {lb : Array Value} {sf : Nat} {sb : Array Value} {blk N : Nat} {St : World → Array α → Prop}
/-- What two sorted halves are merged to. -/
def Merges (lt : α → α → Bool) (St : World → Array α → Prop) (blk a b : Nat) (d : Array α) (w : World) : Ending → World → Prop := fun e w' => e = .returned (.tuple #[]) ∧ ∃ d', St w' d' ∧ SortedIn lt a b d' ∧ PermIn a b d d' ∧ w.grownBy w' (some blk)
set_option maxRecDepth 20000 in
set_option maxHeartbeats 8000000 in
theorem sym_step (S : Sorts lt g lb sf sb blk N St) (hO : SWO lt) (hN : N ≤ 1000000) (a m b : Nat) (h1 : a + 1 < m) (h2 : m + 1 < b) (h3 : b ≤ N)
    (ih : ∀ a' m' b', b' - a' < b - a → a' < m' → m' < b' → b' ≤ N → ∀ d w, St w d → SortedIn lt a' m' d → SortedIn lt m' b' d → Calls Tryz.prog 200 #[dV g lb sf sb, .int .i64 a', .int .i64 m', .int .i64 b'] w (Merges lt St blk a' b' d w))
    (d : Array α) (w : World) (h : St w d) (hs1 : SortedIn lt a m d) (hs2 : SortedIn lt m b d) :
    Calls Tryz.prog 200 #[dV g lb sf sb, .int .i64 a, .int .i64 m, .int .i64 b] w (Merges lt St blk a b d w) := by
  have hbl := S.blt w d h
  have hsz := S.size w d h
  have hrot := fun W e (x y n : Nat) (hs : St W e) (hx : x < y) (hy : y < n) (hn : n ≤ N) => rotate_any S e W hs x y n hx hy hn hN
  unfold dV at ih hrot ⊢
  obtain ⟨W0, hW0⟩ : ∃ W, W = w.alloc (.cells #[.func (.func g) #[] lb, .func (.func sf) #[] sb] 235) := ⟨_, rfl⟩
  have hB0 : Below w.heap.size w W0 := by rw [hW0]; exact (Below.refl _ _).alloc (Nat.le_refl _) _
  have c0 : W0.cell? ⟨w.heap.size, 0, none⟩ = some (.func (.func g) #[] lb) := by rw [hW0]; simp
  have c1 : W0.cell? ⟨w.heap.size, 1, none⟩ = some (.func (.func sf) #[] sb) := by rw [hW0]; simp
  have HS0 : Hid (St W0 d) := S.below _ _ _ h hB0
  have HW0 : Hid (W0 = _) := hW0
  have H1 : Hid (SortedIn lt a m d) := hs1
  have H2 : Hid (SortedIn lt m b d) := hs2
  have IH : Hid _ := ih
  have HROT : Hid _ := hrot
  have eg := S.eg
  clear hW0 hs1 hs2 ih hrot
  go_enter Tryz.func200, Tryz.ntmps200
  have z0 : ¬ (m : Int) - (a : Int) = 1 := by omega
  have z0b : ((m : Int) - (a : Int) == 1) = false := by simpa using z0
  have z3 : ¬ (b : Int) - (m : Int) = 1 := by omega
  have z3b : ((b : Int) - (m : Int) == 1) = false := by simpa using z3
  obtain ⟨mid, hmid⟩ : ∃ x, x = (a + b) / 2 := ⟨_, rfl⟩
  have em : ((a : Int) + (b : Int)) / 2 = (mid : Int) := by omega
  -- what the search finds
  obtain ⟨s0, r0, hsr⟩ : ∃ s0 r0 : Nat, (mid < m ∧ s0 + b = mid + m ∧ r0 = mid) ∨ (m ≤ mid ∧ s0 = a ∧ r0 = m) := by
    rcases Nat.lt_or_ge mid m with h4 | h4
    · exact ⟨mid + m - b, mid, Or.inl ⟨h4, by omega, rfl⟩⟩
    · exact ⟨a, m, Or.inr ⟨h4, rfl, rfl⟩⟩
  have HSR : Hid ((mid < m ∧ s0 + b = mid + m ∧ r0 = mid) ∨ (m ≤ mid ∧ s0 = a ∧ r0 = m)) := hsr
  have HMID : Hid (mid = (a + b) / 2) := hmid
  clear hsr hmid
  go_upto_if 106 with fail
  rw [← HW0.out]
  go_cut [18, 19] from 23 (fun s18 s19 wx => wx = W0 ∧ s18 = .int .i64 s0 ∧ s19 = .int .i64 r0)
  case first =>
    rcases HSR.out with ⟨x1, x2, x3⟩ | ⟨x1, x2, x3⟩
    · have z4 : (mid : Int) < (m : Int) := by omega
      go_wp2
      go_meet
      case rel => exact ⟨rfl, congrArg (Value.int .i64) (by omega), congrArg (Value.int .i64) (by omega)⟩
    · have z4 : ¬ (mid : Int) < (m : Int) := by omega
      go_wp2
      go_meet
      case rel => exact ⟨rfl, congrArg (Value.int .i64) (by omega), congrArg (Value.int .i64) (by omega)⟩
  case rest =>
    obtain ⟨hw, rfl, rfl⟩ := hcut
    subst wc
    have b0 : Hid (a ≤ s0 ∧ s0 ≤ r0 ∧ r0 ≤ m ∧ r0 ≤ mid ∧ mid + m ≤ s0 + b) := by have := HSR.out; have := HMID.out; exact (by omega : a ≤ s0 ∧ s0 ≤ r0 ∧ r0 ≤ m ∧ r0 ≤ mid ∧ mid + m ≤ s0 + b)
    go_wp2
    go_loopw [18, 19] (fun i j wr => ∃ (p q : Nat), s0 ≤ p ∧ p ≤ q ∧ q ≤ r0 ∧ i = .int .i64 p ∧ j = .int .i64 q ∧ Hid (s0 < p → lt d[mid + m - p]! d[p - 1]! = false) ∧ Hid (q < r0 → lt d[mid + m - 1 - q]! d[q]! = true) ∧ Hid (St wr d) ∧ Hid (W0.grownBy wr (some blk))) (fun i j _ => (intOf j).toNat - (intOf i).toNat)
    case atStart => exact ⟨s0, r0, Nat.le_refl _, b0.out.2.1, Nat.le_refl _, rfl, rfl, fun h => absurd h (Nat.lt_irrefl _), fun h => absurd h (Nat.lt_irrefl _), HS0, grown_refl _ _⟩
    case round =>
      obtain ⟨p, q, hp, hpq, hqb, rfl, rfl, K1, K2, HS, HG⟩ := hrel
      have cw0 : wr.cell? ⟨w.heap.size, 0, none⟩ = some (.func (.func g) #[] lb) := grown_cell HG.out (by omega) c0
      have cw1 : wr.cell? ⟨w.heap.size, 1, none⟩ = some (.func (.func sf) #[] sb) := grown_cell HG.out (by omega) c1
      have bb := b0.out
      by_cases hlt : p < q
      · have hl := S.less wr d (mid + m - 1 - (p + q) / 2) ((p + q) / 2) HS.out (by omega) (by omega)
        rw [show ((mid + m - 1 - (p + q) / 2 : Nat) : Int) = (mid : Int) + m - 1 - ((p : Int) + q) / 2 by omega, show (((p + q) / 2 : Nat) : Int) = ((p : Int) + q) / 2 by omega] at hl
        generalize hlv : lt d[mid + m - 1 - (p + q) / 2]! d[(p + q) / 2]! = lv at hl
        have HLV : Hid (lt d[mid + m - 1 - (p + q) / 2]! d[(p + q) / 2]! = lv) := hlv
        clear hlv
        go_wp2_with fail
        refine hl.mono ?_
        rintro e3 w2 ⟨rfl, hb2⟩
        have HS3 : Hid (St w2 d) := S.below _ _ _ HS.out hb2
        have HG3 : Hid (W0.grownBy w2 (some blk)) := grown_then HG.out (grown_below hb2)
        clear hl cw0
        cases lv with
        | false =>
          go_wp2
          go_roundw
          case rel => exact ⟨(p + q) / 2 + 1, q, by omega, by omega, hqb, by rw [show ((p : Int) + (q : Int)) / 2 + 1 = (((p + q) / 2 + 1 : Nat) : Int) by omega], rfl, fun _ => by rw [at_eq d (show mid + m - ((p + q) / 2 + 1) = mid + m - 1 - (p + q) / 2 by omega)]; exact HLV.out, K2, HS3, HG3⟩
          case measure => simp [intOf]; omega
        | true =>
          go_wp2
          go_roundw
          case rel => exact ⟨p, (p + q) / 2, by omega, by omega, by omega, rfl, by rw [show ((p : Int) + (q : Int)) / 2 = (((p + q) / 2 : Nat) : Int) by omega], K1, fun _ => HLV.out, HS3, HG3⟩
          case measure => simp [intOf]; omega
      · obtain rfl : q = p := by omega
        obtain ⟨en, hen⟩ : ∃ x, x = mid + m - q := ⟨_, rfl⟩
        have een : (mid : Int) + (m : Int) - (q : Int) = (en : Int) := by omega
        have HEN : Hid (en + q = mid + m) := (by omega : en + q = mid + m)
        clear hen
        have HN : Hid (b ≤ N) := h3
        have HK1 : Hid (a < q → en < b → lt d[en]! d[q - 1]! = false) := fun x1 x2 => by
          have := HSR.out; have := HEN.out
          have e := K1.out (by omega)
          rwa [at_eq d (show mid + m - q = en by omega)] at e
        have HK2 : Hid (q < m → m < en → lt d[q]! d[en - 1]! = false) := fun x1 x2 => by
          have := HSR.out; have := HEN.out
          have e := K2.out (by omega)
          rw [at_eq d (show mid + m - 1 - q = en - 1 by omega)] at e
          exact swo_asym hO e
        have b1 : a ≤ q ∧ q ≤ m ∧ m ≤ en ∧ en ≤ b ∧ q ≤ mid ∧ mid ≤ en ∧ a < mid ∧ mid < b := by have := HEN.out; have := HMID.out; omega
        go_upto_if 145 with fail
        all_goals
          go_cut [] from 23 (fun wx => ∃ d1, Hid (St wx d1) ∧ Hid (Rotated q m en d d1) ∧ Hid (PermIn a b d d1) ∧ Hid (W0.grownBy wx (some blk)))
          case first =>
            by_cases hr : q < m ∧ m < en
            · have z5 : (q : Int) < (m : Int) := by omega
              have z6 : (m : Int) < (en : Int) := by omega
              first
              | (exfalso; omega)
              | (have hc := HROT.out wr d q m en HS.out hr.1 hr.2 (by omega)
                 go_wp2_with fail
                 refine hc.mono ?_
                 rintro e3 w2 ⟨rfl, d2, hs2, hw2, hp2, hg2⟩
                 have HS4 : Hid (St w2 d2) := hs2
                 have HR4 : Hid (Rotated q m en d d2) := hw2
                 have HP4 : Hid (PermIn a b d d2) := permIn_mono _ _ _ _ _ _ (by omega) (by omega) (by omega) hp2
                 have HG4 : Hid (W0.grownBy w2 (some blk)) := grown_then HG.out hg2
                 clear hs2 hw2 hp2 hg2 hc
                 go_wp2
                 go_meet
                 case rel => exact ⟨d2, HS4, HR4, HP4, HG4⟩)
            · have z5 : ¬ ((q : Int) < (m : Int) ∧ (m : Int) < (en : Int)) := by omega
              have z6 : ¬ (m : Int) < (en : Int) ∨ ¬ (q : Int) < (m : Int) := by omega
              have HR4 : Hid (Rotated q m en d d) := by
                rcases Nat.lt_or_ge q m with y | y
                · obtain rfl : en = m := by omega
                  exact rotated_none_right d
                · obtain rfl : q = m := by omega
                  exact rotated_none_left d
              rcases z6 with z6 | z6
              all_goals go_wp2
              all_goals
                go_meet
                case rel => exact ⟨d, HS, HR4, permIn_refl _ _ _, HG⟩
          case rest =>
            obtain ⟨d1, HS5, HR5, HP5, HG5⟩ := hcut
            obtain ⟨W5, rfl⟩ : ∃ x, x = wc := ⟨_, rfl⟩
            have he := HEN.out
            have HX : Hid (∀ i j, a ≤ i → i < mid → mid ≤ j → j < b → lt d1[j]! d1[i]! = false) := cross_rot hO H1.out H2.out mid en he b1.1 b1.2.1 b1.2.2.1 b1.2.2.2.1 HR5.out HK1.out HK2.out
            have HY : Hid (SortedIn lt a q d1 ∧ SortedIn lt q mid d1 ∧ SortedIn lt mid en d1 ∧ SortedIn lt en b d1) := rot_parts H1.out H2.out mid en he b1.1 b1.2.1 b1.2.2.1 b1.2.2.2.1 HR5.out
            have v0 : W5.cell? ⟨w.heap.size, 0, none⟩ = some (.func (.func g) #[] lb) := grown_cell HG5.out (by omega) c0
            have v1 : W5.cell? ⟨w.heap.size, 1, none⟩ = some (.func (.func sf) #[] sb) := grown_cell HG5.out (by omega) c1
            have hs5 := S.size W5 d1 HS5.out
            clear cw0 cw1
            go_upto_if 158 with fail
            all_goals
              go_cut [] from 23 (fun wx => ∃ d2, Hid (St wx d2) ∧ Hid (SortedIn lt a mid d2) ∧ Hid (PermIn a mid d1 d2) ∧ Hid (W0.grownBy wx (some blk)))
              case first =>
                by_cases hr : a < q ∧ q < mid
                · have z5 : (a : Int) < (q : Int) := by omega
                  have z6 : (q : Int) < (mid : Int) := by omega
                  first
                  | (exfalso; omega)
                  | (have hc := IH.out a q mid (by omega) hr.1 hr.2 (by omega) d1 W5 HS5.out HY.out.1 HY.out.2.1
                     go_wp2_with fail
                     refine hc.mono ?_
                     rintro e3 w2 ⟨rfl, d2, hs2, hw2, hp2, hg2⟩
                     have HS6 : Hid (St w2 d2) := hs2
                     have HR6 : Hid (SortedIn lt a mid d2) := hw2
                     have HP6 : Hid (PermIn a mid d1 d2) := hp2
                     have HG6 : Hid (W0.grownBy w2 (some blk)) := grown_then HG5.out hg2
                     clear hs2 hw2 hp2 hg2 hc
                     go_wp2
                     go_meet
                     case rel => exact ⟨d2, HS6, HR6, HP6, HG6⟩)
                · have z6 : ¬ (q : Int) < (mid : Int) ∨ ¬ (a : Int) < (q : Int) := by omega
                  have HR6 : Hid (SortedIn lt a mid d1) := by
                    rcases Nat.lt_or_ge a q with y | y
                    · have e1 : q = mid := by omega
                      have := HY.out.1
                      rw [e1] at this
                      exact this
                    · have e1 : q = a := by omega
                      have := HY.out.2.1
                      rw [e1] at this
                      exact this
                  rcases z6 with z6 | z6
                  all_goals go_wp2
                  all_goals
                    go_meet
                    case rel => exact ⟨d1, HS5, HR6, permIn_refl _ _ _, HG5⟩
              case rest =>
                obtain ⟨d2, HS6, HR6, HP6, HG6⟩ := hcut
                obtain ⟨W6, rfl⟩ : ∃ x, x = wc := ⟨_, rfl⟩
                have HX2 : Hid (∀ i j, a ≤ i → i < mid → mid ≤ j → j < b → lt d2[j]! d2[i]! = false) := cross_perm (by omega) (by omega) HX.out HP6.out
                have HY3 : Hid (SortedIn lt mid en d2) := sorted_out HY.out.2.2.1 HP6.out (Or.inr (Nat.le_refl _))
                have HY4 : Hid (SortedIn lt en b d2) := sorted_out HY.out.2.2.2 HP6.out (Or.inr (by omega))
                have y0 : W6.cell? ⟨w.heap.size, 0, none⟩ = some (.func (.func g) #[] lb) := grown_cell HG6.out (by omega) c0
                have y1 : W6.cell? ⟨w.heap.size, 1, none⟩ = some (.func (.func sf) #[] sb) := grown_cell HG6.out (by omega) c1
                have hs6 := S.size W6 d2 HS6.out
                have HQ : Hid (PermIn a b d d2) := permIn_trans _ _ _ _ _ HP5.out (permIn_mono _ _ _ _ _ _ (by omega) (by omega) (by omega) HP6.out)
                clear v0 v1
                go_upto_if 171 with fail
                all_goals
                  by_cases hr : mid < en ∧ en < b
                  · have z5 : (mid : Int) < (en : Int) := by omega
                    have z6 : (en : Int) < (b : Int) := by omega
                    first
                    | (exfalso; omega)
                    | (have hc := IH.out mid en b (by omega) hr.1 hr.2 (by omega) d2 W6 HS6.out HY3.out HY4.out
                       go_wp2_with fail
                       refine hc.mono ?_
                       rintro e3 w2 ⟨rfl, d3, hs2, hw2, hp2, hg2⟩
                       go_wp2
                       go_end0
                       exact ⟨rfl, d3, hs2, sorted_join (sorted_out HR6.out hp2 (Or.inl (Nat.le_refl _))) hw2 (cross_perm2 (by omega) HX2.out hp2), permIn_trans _ _ _ _ _ HQ.out (permIn_mono _ _ _ _ _ _ (by omega) (by omega) (by omega) hp2), grown_then (grown_then (grown_below hB0) HG6.out) hg2⟩)
                  · have z6 : ¬ (en : Int) < (b : Int) ∨ ¬ (mid : Int) < (en : Int) := by omega
                    have HR7 : Hid (SortedIn lt mid b d2) := by
                      rcases Nat.lt_or_ge mid en with y | y
                      · have e1 : en = b := by omega
                        have := HY3.out
                        rw [e1] at this
                        exact this
                      · have e1 : en = mid := by omega
                        have := HY4.out
                        rw [e1] at this
                        exact this
                    rcases z6 with z6 | z6
                    all_goals go_wp2
                    all_goals
                      go_end0
                      exact ⟨rfl, d2, HS6.out, sorted_join HR6.out HR7.out HX2.out, HQ.out, grown_then (grown_below hB0) HG6.out⟩
theorem sym_any (S : Sorts lt g lb sf sb blk N St) (hO : SWO lt) (hN : N ≤ 1000000) : ∀ (k a m b : Nat), b - a = k → a < m → m < b → b ≤ N → ∀ d w, St w d → SortedIn lt a m d → SortedIn lt m b d → Calls Tryz.prog 200 #[dV g lb sf sb, .int .i64 a, .int .i64 m, .int .i64 b] w (Merges lt St blk a b d w) := by
  intro k
  induction k using Nat.strongRecOn with
  | ind k ih =>
    intro a m b hk h1 h2 h3 d w h hs1 hs2
    by_cases e1 : m = a + 1
    · subst e1
      exact merge_one_right S hO d w h a _ b rfl h2 h3 hN hs2
    · by_cases e2 : b = m + 1
      · exact merge_one_left S hO d w h a m b e2 (by omega) h3 hN hs1
      · exact sym_step S hO hN a m b (by omega) (by omega) h3 (fun a' m' b' hl x1 x2 x3 => ih (b' - a') (by omega) a' m' b' rfl x1 x2 x3) d w h hs1 hs2
end
end Go.Proofs.YtcfgacdcgljbaaaGreatDoor
