/- PROVED HERE: for every list of deeds and every list of numbers tallymankeep.LedgerStock returns true, and leaves its arguments as they were, where the package-level variables that its row lists hold what the program's text lays (the tied card Rows.LedgerStockCardSaid). No other condition. -/
import Derived.Test.YtppamojkhkdfpaaGreatDoorLedStk
import Derived.Test.YtppamojkhkdfpaaGreatDoorActsKeep
import Derived.Test.YtppamojkhkdfpaaGreatDoorCards
import Derived.Test.YtppamojkhkdfpaaGreatDoorTie
import Derived.ShutString
import Derived.ChangeOld
import Derived.LaidHandle
import Derived.Lay
import Derived.Lib.LaidTab
import Derived.Stop.LaidErr
import Derived.Stop.Joined
import Derived.SevenTiedAt
import Derived.Shelf.Vars
namespace Go.Proofs.YtppamojkhkdfpaaGreatDoor.ledgerStock
open Go.Proofs.YtppamojkhkdfpaaGreatDoor
open Go.ChangeShapes Go.WideShapes Go.ChangeAt Go.RowKit
set_option linter.unusedVariables false
theorem own : ownKnob Tryz.prog.godebug = none := by kernel_rfl
theorem laidOut : laidOutB Tryz.prog = true := by kernel_rfl
theorem gLen : Tryz.prog.globalNamed "tallyman/day.lengths" = some 2 := by kernel_rfl
theorem lenType : (Tryz.prog.globals[2]?).map (·.type) = some 278 := by kernel_rfl
/-- What the listed variables give the walk. -/
theorem glob_of {W : World} (h : laidMetH Tryz.prog Rows.ledgerStockRow.laid W) (hsh : W.ShapedOpen Tryz.prog) : LenTab W := by
  have hp : laidMet Tryz.prog [("tallyman/day.lengths", Rows.laid_tallyman_day_lengths)] W := h
  have ht := Lib.tabIs_of_head (k := .i64) (zs := [31, 28, 31, 30, 31, 30, 31, 31, 30, 31, 30, 31]) gLen lenType Tryz.underlying278 Tryz.underlying3 (by kernel_rfl) (by kernel_rfl) (show laidMet Tryz.prog (("tallyman/day.lengths", Lib.tabData .i64 [31, 28, 31, 30, 31, 30, 31, 31, 30, 31, 30, 31]) :: _) W from hp)
  intro k hk
  rw [World.var?_cell gLen ht k]
  have : k = 0 ∨ k = 1 ∨ k = 2 ∨ k = 3 ∨ k = 4 ∨ k = 5 ∨ k = 6 ∨ k = 7 ∨ k = 8 ∨ k = 9 ∨ k = 10 ∨ k = 11 := by omega
  rcases this with rfl | rfl | rfl | rfl | rfl | rfl | rfl | rfl | rfl | rfl | rfl | rfl <;> rfl
set_option maxRecDepth 100000 in
theorem start_met (os : Os) (args : Array Value) : laidMetH Tryz.prog Rows.ledgerStockRow.laid (((World.holding Tryz.prog os ⟨#[], #[], []⟩).layVars Tryz.prog [("tallyman/day.lengths", Rows.laid_tallyman_day_lengths)]).forCall (fun _ _ => 0) ⟨#[], args, []⟩).memory := by
  have h : laidMet Tryz.prog [("tallyman/day.lengths", Rows.laid_tallyman_day_lengths)] ((World.holding Tryz.prog os ⟨#[], #[], []⟩).layVars Tryz.prog [("tallyman/day.lengths", Rows.laid_tallyman_day_lengths)]) :=
    laidMet_layVars (w0 := (World.holding Tryz.prog os ⟨#[], #[], []⟩)) ["tallyman/day.lengths"] [] (by kernel_rfl) (by kernel_rfl) (by kernel_rfl) LaidIn.none
  exact laidMetH_of_parts (h.of_heap (by simp [World.memory, World.forCall, Input.heap])) (by kernel_rfl)
set_option maxRecDepth 100000 in
theorem lifted (os : Os) (started : os.Started) (H : Type) (enc : TypeId × Value → H) :
    ReturnsInHanded {} Tryz.checked os 5 .any (fun w args => (Rows.ledgerStockSpec.pre enc Tryz.prog Tryz.f5 Rows.ledgerStockRow.domain false w args ∧ laidMetH Tryz.prog Rows.ledgerStockRow.laid w) ∧ sizedMet enc Tryz.prog Tryz.f5 (OpenSpec.ofChange Rows.ledgerStockSpec) false w args)
      (Rows.ledgerStockSpec.post enc Tryz.prog Tryz.f5 false true false false) := by
  refine returnsInHanded_of_calls (C := Tryz.checked) own started (by kernel_rfl)
    (ChangeSpec.witness_shaped (enc := enc) (C := Tryz.checked) (os := os) (X := fun w _ => laidMetH Tryz.prog Rows.ledgerStockRow.laid w) false ((World.holding Tryz.prog os ⟨#[], #[], []⟩).layVars Tryz.prog [("tallyman/day.lengths", Rows.laid_tallyman_day_lengths)]) #[.slice none 0 0, .slice none 0 0] 8 (World.layVars_os _ _ _)
      (World.shaped_of_ZipB (by kernel_rfl) (by kernel_rfl)) (by kernel_rfl) (by kernel_rfl) (by kernel_rfl) (start_met os _)) ?_
  intro w tape i _ hsh _ hok hpre _
  obtain ⟨_, _, _, fn', hfn', _, _, _, _, hval0⟩ := hok
  obtain rfl : fn' = Tryz.f5 := Option.some.inj (hfn'.symm.trans Tryz.func5)
  obtain ⟨⟨⟨ds, gs, before, hw, _⟩, hL0⟩, _⟩ := hpre
  have hW := DataW.Whole.of_heap (w' := w.forCall tape i) (by rfl) hw
  have hL : laidMetH Tryz.prog Rows.ledgerStockRow.laid (w.forCall tape i) := hL0.of_heap (by rfl)
  clear hw hL0
  suffices hs : Calls Tryz.prog 5 i.args (w.forCall tape i) fun e W' => ∃ v, e = .returned v ∧ Rows.ledgerStockSpec.post enc Tryz.prog Tryz.f5 false true false false (w.forCall tape i) i.args v W' from
    hs.mono fun e W' ⟨v, he, hp⟩ => by subst he; exact ChangeSpec.post_blind hp
  generalize i.args = args at *
  generalize w.forCall tape i = W at *
  have hgl := glob_of hL hsh
  have hval : ∀ (j : Nat) t v, Tryz.f5.params[j]? = some t → args[j]? = some v → Value.okWide Tryz.prog W .any w.heap.size t v := hval0
  have hW' := hW
  obtain ⟨p, q, hA0, hV, rfl, hfz, hnd⟩ := hW
  have hA : DataW.TrodAll enc Tryz.prog W 0 (fun _ => true) true Tryz.f5.params.toList args.toList ds p := hA0
  rw [Tryz.params5] at hA hval
  obtain ⟨v0, vs0, d0, ds0, p0, q0, hargs, rfl, rfl, h0, r0⟩ := trodAll_cons hA
  obtain ⟨v1, vs1, d1, ds1, p1, q1, rfl, rfl, rfl, h1, r1⟩ := trodAll_cons r0
  obtain ⟨rfl, rfl, rfl⟩ := trodAll_nil r1
  obtain rfl : args = #[v0, v1] := by cases args; simp_all
  obtain ⟨rfl, rfl⟩ := trodVars_none hV
  obtain ⟨a0, len0, cap0, rfl⟩ := okWide_slice Tryz.underlying98 (hval 0 98 v0 rfl rfl)
  have k0 := h0
  have lt0 : ∀ x ∈ p0, x.block < W.heap.size := by obtain ⟨m, hm⟩ := k0; exact DataW.trod_lt m _ _ _ hm
  obtain ⟨l, hl, hat, hmx⟩ : ∃ l : List Ac, len0 = l.length ∧ ActsAt W a0 l ∧ l.length ≤ maxLen := by
    obtain ⟨fuel, hf⟩ := h0
    obtain ⟨ao, cap, l, hcs, hat, hm⟩ := open_actsK hf
    simp [Value.cells] at hcs
    obtain ⟨rfl, rfl, rfl⟩ := hcs
    exact ⟨l, rfl, hat, hm⟩
  subst hl
  obtain ⟨a1, len1, cap1, rfl⟩ := okWide_slice Tryz.underlying23 (hval 1 23 v1 rfl rfl)
  have k1 := h1
  have lt1 : ∀ x ∈ p1, x.block < W.heap.size := by obtain ⟨m, hm⟩ := k1; exact DataW.trod_lt m _ _ _ hm
  obtain ⟨z1, hl1, hz1, hmz⟩ : ∃ z1 : List Int, len1 = z1.length ∧ IntsAt W a1 z1 ∧ z1.length ≤ maxLen := by
    obtain ⟨fuel, hf⟩ := h1
    obtain ⟨ao, cap, z, hcs, hat, hm⟩ := open_nums hf
    simp [Value.cells] at hcs
    obtain ⟨rfl, rfl, rfl⟩ := hcs
    exact ⟨z, rfl, hat, hm⟩
  subst hl1
  clear hA0 hval0
  refine (walk l a0 cap0 z1 a1 cap1 W hat hz1 hmx hmz hgl).mono fun e W' ⟨he, bel⟩ => ?_
  subst he
  exact ⟨_, rfl, _, _, _, [], _, [], hW', trodAll_mk1 (shut_bool Tryz.underlying4 _), (trodAll_cons_mk (Below.trod laidOut (by kernel_rfl) (of_decide_eq_true (by kernel_rfl)) k0 bel lt0) (trodAll_cons_mk (Below.trod laidOut (by kernel_rfl) (of_decide_eq_true (by kernel_rfl)) k1 bel lt1) trodAll_mk0)), rfl, bel.frame _, fun h => by cases h⟩
theorem over : Rows.LedgerStockSaid :=
  OpenClaim.holds_of_wide 5 Tryz.f5 rfl rfl rfl rfl rfl rfl rfl ⟨rfl, rfl, rfl, rfl, rfl⟩ rfl rfl rfl rfl rfl (by kernel_rfl) Tryz.func5 (by kernel_rfl)
    (of_decide_eq_true (by kernel_rfl)) (by unfold Func.isWrapper; first | (rw [if_pos (by decide +kernel)]; kernel_rfl) | (rw [if_neg (by decide +kernel)]; exact ⟨rfl, rfl⟩))
    (fun os started H enc _ => lifted os started H enc)
theorem card : Rows.LedgerStockCardSaid :=
  Claim7.holds_tied_plain_at .later [] [.data] true (true, "341d38f823a178d660011a0abad938602a29f244a3eadc3ae0c02f2bf3122341") true
    over (fun _ h => by cases h) (by kernel_rfl) (fun _ h => by cases h) ledgerStock_row_tie rfl ⟨rfl, rfl⟩ (by kernel_rfl) rfl
    (fun f fn hf hfn => by
      obtain rfl : f = 5 := Option.some.inj ((show Tryz.prog.funcNamed "tallyman/tallymankeep.LedgerStock" = some 5 by kernel_rfl).symm.trans hf) |>.symm
      obtain rfl : fn = Tryz.f5 := (Option.some.inj (Tryz.func5.symm.trans hfn)).symm
      exact ⟨by kernel_rfl, fun j t ht => by
        rw [Tryz.params5] at ht
        have hm : t ∈ [98, 23] := by simpa using Array.mem_of_getElem? ht
        have hall : ([98, 23].all fun u => !Tryz.prog.wantsStandIn u) = true := by kernel_rfl
        exact (show Tryz.prog.wantsStandIn t = false by simpa using List.all_eq_true.1 hall t hm)⟩)
    (by kernel_rfl)
end Go.Proofs.YtppamojkhkdfpaaGreatDoor.ledgerStock
namespace Go.Proofs.YtppamojkhkdfpaaGreatDoor
theorem ledgerStock_holds : Rows.LedgerStockCardSaid := ledgerStock.card
end Go.Proofs.YtppamojkhkdfpaaGreatDoor
#print axioms Go.Proofs.YtppamojkhkdfpaaGreatDoor.ledgerStock_holds
