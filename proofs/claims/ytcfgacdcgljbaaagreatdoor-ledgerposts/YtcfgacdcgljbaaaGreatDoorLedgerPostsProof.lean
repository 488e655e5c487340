/- PROVED HERE: for all figures, every list of postings and every text tallymanlaw.LedgerPosts returns true, and leaves its arguments as they were, where the package-level variables that its row lists hold what the program's text lays (the tied card Rows.LedgerPostsCardSaid). No other condition. -/
import Derived.Test.YtcfgacdcgljbaaaGreatDoorRlLaw
import Derived.Test.YtcfgacdcgljbaaaGreatDoorRlFine
import Derived.Test.YtcfgacdcgljbaaaGreatDoorCards
import Derived.Test.YtcfgacdcgljbaaaGreatDoorTie
import Derived.ShutString
import Derived.ChangeOld
import Derived.LaidHandle
import Derived.Lay
import Derived.Lib.LaidTab
import Derived.Stop.LaidErr
import Derived.Stop.Joined
import Derived.SevenTiedAt
import Derived.Shelf.Vars
namespace Go.Proofs.YtcfgacdcgljbaaaGreatDoor.ledgerPosts
open Go.Proofs.YtcfgacdcgljbaaaGreatDoor
open Go.ChangeShapes Go.WideShapes Go.ChangeAt Go.RowKit
open Go.ChangeMaps (open_string shut_string)
set_option linter.unusedVariables false
theorem own : ownKnob Tryz.prog.godebug = none := by kernel_rfl
theorem laidOut : laidOutB Tryz.prog = true := by kernel_rfl
theorem et : Tryz.prog.globalNamed "errors.errorType" = some 4 := by kernel_rfl
theorem rt : (Tryz.prog.cutTypes.find? (·.1 == "internal/reflectlite.rtype")).map (·.2) = some 272 := by kernel_rfl
theorem oneRow : ((List.range 397).filter fun t => Tryz.prog.rowNamed t [101, 114, 114, 111, 114]) = [51] := by kernel_rfl
theorem ntypes : Tryz.prog.types.size = 397 := by kernel_rfl
theorem tabType : (Tryz.prog.globals[9]?).map (·.type) = some 362 := by kernel_rfl
theorem synType : (Tryz.prog.globals[5]?).map (·.type) = some 51 := by kernel_rfl
theorem rngType : (Tryz.prog.globals[6]?).map (·.type) = some 51 := by kernel_rfl
theorem star : "*" ++ "errors.errorString" = "*errors.errorString" := by decide
theorem rowErr (u : TypeId) (h : Tryz.prog.typeName? 3 u = some "*errors.errorString") : u = 366 :=
  typeName_ptr_named (nm := "errors.errorString") (by rw [star]; kernel_rfl) (by kernel_rfl) (by decide) u (by rw [star]; exact h)
/-- What the listed variables give the walks. -/
theorem glob_of {W : World} (h : laidMetH Tryz.prog Rows.ledgerPostsRow.laid W) (hsh : W.ShapedOpen Tryz.prog) : GlobL W := by
  have h' : laidMet Tryz.prog (Rows.ledgerPostsRow.laid.filter fun x => x.2.handleName?.isNone) W ∧ handlesMet Tryz.prog (Rows.ledgerPostsRow.laid.filter fun x => x.2.handleName?.isSome) W := h
  have hp : laidMet Tryz.prog [("math/bits.deBruijn32tab", Rows.laid_math_bits_deBruijn32tab), ("math/bits.deBruijn64tab", Rows.laid_math_bits_deBruijn64tab), ("internal/strconv.uint64pow10", Rows.laid_internal_strconv_uint64pow10), ("unicode/utf8.acceptRanges", Rows.laid_unicode_utf8_acceptRanges), ("strconv.ErrRange", Rows.laid_strconv_ErrRange), ("strconv.ErrSyntax", Rows.laid_strconv_ErrSyntax), ("tallyman/ledger.accounts", Rows.laid_tallyman_ledger_accounts), ("tallyman/tallymanref.Fine", Rows.laid_tallyman_tallymanref_Fine), ("unicode/utf8.first", Rows.laid_unicode_utf8_first)] W := h'.1
  obtain ⟨name, u, ty, e1, e2, e3, e4, e5⟩ := h'.2 _ (List.mem_singleton.2 rfl)
  have en : name = [101, 114, 114, 111, 114] := (Option.some.inj e1).symm
  subst en
  obtain rfl := Option.some.inj (rt.symm.trans e2)
  have hm : ty ∈ (List.range 397).filter fun t => Tryz.prog.rowNamed t [101, 114, 114, 111, 114] := List.mem_filter.2 ⟨List.mem_range.2 (by rw [← ntypes]; exact e3), e4⟩
  rw [oneRow] at hm
  obtain rfl := List.mem_singleton.1 hm
  have hh : typeHandle Tryz.prog 51 = .pointer (some ⟨12, 51, none⟩) := by kernel_rfl
  rw [hh] at e5
  refine ⟨⟨by unfold ErrType; simpa using World.var?_cell et e5 0, ?_, ?_, ?_, ?_⟩, ⟨?_, ?_⟩, ?_⟩
  · exact Lib.tabIs_of_head (k := .u64) (zs := Lib.pow10Tab) Tryz.gTab tabType Tryz.underlying362 Tryz.underlying222 (by kernel_rfl) (by kernel_rfl) (show laidMet Tryz.prog (("internal/strconv.uint64pow10", Lib.tabData .u64 Lib.pow10Tab) :: _) W from hp.tail.tail)
  · obtain ⟨a0, s0, hv0, -, -, -⟩ := laid_sentinel hp.tail.tail.tail.tail.tail Tryz.gSyn synType Tryz.underlying51 rowErr Tryz.underlying366 Tryz.underlying368 rfl rfl Tryz.underlying9 (by kernel_rfl) (by kernel_rfl)
    exact ⟨_, _, hv0⟩
  · obtain ⟨a0, s0, hv0, -, -, -⟩ := laid_sentinel hp.tail.tail.tail.tail Tryz.gRng rngType Tryz.underlying51 rowErr Tryz.underlying366 Tryz.underlying368 rfl rfl Tryz.underlying9 (by kernel_rfl) (by kernel_rfl)
    exact ⟨_, _, hv0⟩
  · exact cell_of_shapedOpen_int (zero := #[.int .i64 0]) (t := 3) hsh (of_decide_eq_true (by kernel_rfl)) (by kernel_rfl) rfl (by kernel_rfl) (by kernel_rfl) Tryz.underlying3
  · exact acc_of (rest := _) (show laidMet Tryz.prog (("tallyman/ledger.accounts", strDataL (accL.map fun z => z.data.toList)) :: _) W from hp.tail.tail.tail.tail.tail.tail)
  · exact cell_of_shapedOpen_int (zero := #[.int .i64 0]) (t := 3) hsh (of_decide_eq_true (by kernel_rfl)) (by kernel_rfl) rfl (by kernel_rfl) (by kernel_rfl) Tryz.underlying3
  · exact fine_of (rest := _) (show laidMet Tryz.prog (("tallyman/tallymanref.Fine", .agg [.lit (.int .i64 0), .lit (.int .i64 (-1))]) :: _) W from hp.tail.tail.tail.tail.tail.tail.tail)
/-- The heap at a start, the handle's one cell laid. -/
def handled (w : World) : World := { w with heap := w.heap.modify 4 fun
  | .cells _ t frozen => .cells #[.iface 272 (.agg #[.pointer (some ⟨12, 51, none⟩)])] t frozen
  | o => o }
set_option maxRecDepth 100000 in
theorem start_met (os : Os) (args : Array Value) : laidMetH Tryz.prog Rows.ledgerPostsRow.laid (((handled (World.holding Tryz.prog os ⟨#[], #[], []⟩)).layVars Tryz.prog [("math/bits.deBruijn32tab", Rows.laid_math_bits_deBruijn32tab), ("math/bits.deBruijn64tab", Rows.laid_math_bits_deBruijn64tab), ("internal/strconv.uint64pow10", Rows.laid_internal_strconv_uint64pow10), ("unicode/utf8.acceptRanges", Rows.laid_unicode_utf8_acceptRanges), ("strconv.ErrRange", Rows.laid_strconv_ErrRange), ("strconv.ErrSyntax", Rows.laid_strconv_ErrSyntax), ("tallyman/ledger.accounts", Rows.laid_tallyman_ledger_accounts), ("tallyman/tallymanref.Fine", Rows.laid_tallyman_tallymanref_Fine), ("unicode/utf8.first", Rows.laid_unicode_utf8_first)]).forCall (fun _ _ => 0) ⟨#[], args, []⟩).memory := by
  have h : laidMet Tryz.prog [("math/bits.deBruijn32tab", Rows.laid_math_bits_deBruijn32tab), ("math/bits.deBruijn64tab", Rows.laid_math_bits_deBruijn64tab), ("internal/strconv.uint64pow10", Rows.laid_internal_strconv_uint64pow10), ("unicode/utf8.acceptRanges", Rows.laid_unicode_utf8_acceptRanges), ("strconv.ErrRange", Rows.laid_strconv_ErrRange), ("strconv.ErrSyntax", Rows.laid_strconv_ErrSyntax), ("tallyman/ledger.accounts", Rows.laid_tallyman_ledger_accounts), ("tallyman/tallymanref.Fine", Rows.laid_tallyman_tallymanref_Fine), ("unicode/utf8.first", Rows.laid_unicode_utf8_first)] ((handled (World.holding Tryz.prog os ⟨#[], #[], []⟩)).layVars Tryz.prog [("math/bits.deBruijn32tab", Rows.laid_math_bits_deBruijn32tab), ("math/bits.deBruijn64tab", Rows.laid_math_bits_deBruijn64tab), ("internal/strconv.uint64pow10", Rows.laid_internal_strconv_uint64pow10), ("unicode/utf8.acceptRanges", Rows.laid_unicode_utf8_acceptRanges), ("strconv.ErrRange", Rows.laid_strconv_ErrRange), ("strconv.ErrSyntax", Rows.laid_strconv_ErrSyntax), ("tallyman/ledger.accounts", Rows.laid_tallyman_ledger_accounts), ("tallyman/tallymanref.Fine", Rows.laid_tallyman_tallymanref_Fine), ("unicode/utf8.first", Rows.laid_unicode_utf8_first)]) :=
    laidMet_layVars (w0 := handled (World.holding Tryz.prog os ⟨#[], #[], []⟩)) ["math/bits.deBruijn32tab", "math/bits.deBruijn64tab", "internal/strconv.uint64pow10", "unicode/utf8.acceptRanges", "strconv.ErrRange", "strconv.ErrSyntax", "tallyman/ledger.accounts", "tallyman/tallymanref.Fine", "unicode/utf8.first"] [] (by kernel_rfl) (by kernel_rfl) (by kernel_rfl) LaidIn.none
  exact laidMetH_of_parts (h.of_heap (by simp [World.memory, World.forCall, Input.heap])) (by kernel_rfl)
set_option maxRecDepth 100000 in
theorem lifted (os : Os) (started : os.Started) (H : Type) (enc : TypeId × Value → H) :
    ReturnsInHanded {} Tryz.checked os 4 .any (fun w args => (Rows.ledgerPostsSpec.pre enc Tryz.prog Tryz.f4 Rows.ledgerPostsRow.domain false w args ∧ laidMetH Tryz.prog Rows.ledgerPostsRow.laid w) ∧ sizedMet enc Tryz.prog Tryz.f4 (OpenSpec.ofChange Rows.ledgerPostsSpec) false w args)
      (Rows.ledgerPostsSpec.post enc Tryz.prog Tryz.f4 false true false false) := by
  refine returnsInHanded_of_calls (C := Tryz.checked) own started (by kernel_rfl)
    (ChangeSpec.witness_shaped (enc := enc) (C := Tryz.checked) (os := os) (X := fun w _ => laidMetH Tryz.prog Rows.ledgerPostsRow.laid w) false ((handled (World.holding Tryz.prog os ⟨#[], #[], []⟩)).layVars Tryz.prog [("math/bits.deBruijn32tab", Rows.laid_math_bits_deBruijn32tab), ("math/bits.deBruijn64tab", Rows.laid_math_bits_deBruijn64tab), ("internal/strconv.uint64pow10", Rows.laid_internal_strconv_uint64pow10), ("unicode/utf8.acceptRanges", Rows.laid_unicode_utf8_acceptRanges), ("strconv.ErrRange", Rows.laid_strconv_ErrRange), ("strconv.ErrSyntax", Rows.laid_strconv_ErrSyntax), ("tallyman/ledger.accounts", Rows.laid_tallyman_ledger_accounts), ("tallyman/tallymanref.Fine", Rows.laid_tallyman_tallymanref_Fine), ("unicode/utf8.first", Rows.laid_unicode_utf8_first)]) #[.agg #[.int .i64 0, .int .i64 0, .int .i64 0, .int .i64 0, .int .i64 0], .slice none 0 0, .string ByteArray.empty] 8 (World.layVars_os _ _ _)
      (World.shaped_of_ZipB (by kernel_rfl) (by kernel_rfl)) (by kernel_rfl) (by kernel_rfl) (by kernel_rfl) (start_met os _)) ?_
  intro w tape i _ hsh _ hok hpre _
  obtain ⟨_, _, _, fn', hfn', _, _, _, _, hval0⟩ := hok
  obtain rfl : fn' = Tryz.f4 := Option.some.inj (hfn'.symm.trans Tryz.func4)
  obtain ⟨⟨⟨ds, gs, before, hw, _⟩, hL0⟩, _⟩ := hpre
  have hW := DataW.Whole.of_heap (w' := w.forCall tape i) (by rfl) hw
  have hL : laidMetH Tryz.prog Rows.ledgerPostsRow.laid (w.forCall tape i) := hL0.of_heap (by rfl)
  clear hw hL0
  suffices hs : Calls Tryz.prog 4 i.args (w.forCall tape i) fun e W' => ∃ v, e = .returned v ∧ Rows.ledgerPostsSpec.post enc Tryz.prog Tryz.f4 false true false false (w.forCall tape i) i.args v W' from
    hs.mono fun e W' ⟨v, he, hp⟩ => by subst he; exact ChangeSpec.post_blind hp
  generalize i.args = args at *
  generalize w.forCall tape i = W at *
  have hgl := glob_of hL hsh
  have hval : ∀ (j : Nat) t v, Tryz.f4.params[j]? = some t → args[j]? = some v → Value.okWide Tryz.prog W .any w.heap.size t v := hval0
  have hW' := hW
  obtain ⟨p, q, hA0, hV, rfl, hfz, hnd⟩ := hW
  have hA : DataW.TrodAll enc Tryz.prog W 0 (fun _ => true) true Tryz.f4.params.toList args.toList ds p := hA0
  rw [Tryz.params4] at hA hval
  obtain ⟨v0, vs0, d0, ds0, p0, q0, hargs, rfl, rfl, h0, r0⟩ := trodAll_cons hA
  obtain ⟨v1, vs1, d1, ds1, p1, q1, rfl, rfl, rfl, h1, r1⟩ := trodAll_cons r0
  obtain ⟨v2, vs2, d2, ds2, p2, q2, rfl, rfl, rfl, h2, r2⟩ := trodAll_cons r1
  obtain ⟨rfl, rfl, rfl⟩ := trodAll_nil r2
  obtain rfl : args = #[v0, v1, v2] := by cases args; simp_all
  obtain ⟨rfl, rfl⟩ := trodVars_none hV
  obtain ⟨a0, rfl, rfl, rfl, w0⟩ := open_fig (hval 0 38 v0 rfl rfl) h0
  have hv1 := hval 1 73 v1 rfl rfl
  obtain ⟨a1, len1, cap1, rfl⟩ := okWide_slice Tryz.underlying73 hv1
  have k1 := h1
  have lt1 : ∀ x ∈ p1, x.block < W.heap.size := by obtain ⟨m, hm⟩ := k1; exact DataW.trod_lt m _ _ _ hm
  obtain ⟨ps, hps, hpw, hmx⟩ : ∃ ps : List Pst, PstsAt W (.slice a1 len1 cap1) ps ∧ (∀ p ∈ ps, PstW p) ∧ ps.length ≤ maxLen := by
    obtain ⟨fuel, hf⟩ := h1
    exact open_psts hv1 hf
  obtain ⟨a2, rfl, rfl, rfl, w2⟩ := open_string Tryz.underlying9 (hval 2 9 v2 rfl rfl) h2
  clear hA0 hval0
  refine (ledgerPosts_walk a0 _ ps a2 W hgl hps hpw hmx w2).mono fun e W' ⟨he, bel⟩ => ?_
  subst he
  exact ⟨_, rfl, _, _, _, [], _, [], hW', trodAll_mk1 (shut_bool Tryz.underlying4 _), (trodAll_cons_mk (shut_fig w0) (trodAll_cons_mk (Below.trod laidOut (by kernel_rfl) (of_decide_eq_true (by kernel_rfl)) k1 bel lt1) (trodAll_cons_mk (shut_string Tryz.underlying9 w2) trodAll_mk0))), rfl, bel.frame _, fun h => by cases h⟩
theorem over : Rows.LedgerPostsSaid :=
  OpenClaim.holds_of_wide 4 Tryz.f4 rfl rfl rfl rfl rfl rfl rfl ⟨rfl, rfl, rfl, rfl, rfl⟩ rfl rfl rfl rfl rfl (by kernel_rfl) Tryz.func4 (by kernel_rfl)
    (of_decide_eq_true (by kernel_rfl)) (by unfold Func.isWrapper; first | (rw [if_pos (by decide +kernel)]; kernel_rfl) | (rw [if_neg (by decide +kernel)]; exact ⟨rfl, rfl⟩))
    (fun os started H enc _ => lifted os started H enc)
theorem card : Rows.LedgerPostsCardSaid :=
  Claim7.holds_tied_plain_at .later [] [.data, .data, .data, .data, .handle, .sentinel, .sentinel, .data, .data, .pinned] true (true, "2219ededc969913d2cbf78540e5417cc61993513390f9987c0c0bc4ee98fd6ba") true
    over (fun _ h => by cases h) (by kernel_rfl) (fun _ h => by cases h) ledgerPosts_row_tie rfl ⟨rfl, rfl⟩ (by kernel_rfl) rfl
    (fun f fn hf hfn => by
      obtain rfl : f = 4 := Option.some.inj ((show Tryz.prog.funcNamed "tallyman/tallymanlaw.LedgerPosts" = some 4 by kernel_rfl).symm.trans hf) |>.symm
      obtain rfl : fn = Tryz.f4 := (Option.some.inj (Tryz.func4.symm.trans hfn)).symm
      exact ⟨by kernel_rfl, fun j t ht => by
        rw [Tryz.params4] at ht
        have hm : t ∈ [38, 73, 9] := by simpa using Array.mem_of_getElem? ht
        have hall : ([38, 73, 9].all fun u => !Tryz.prog.wantsStandIn u) = true := by kernel_rfl
        exact (show Tryz.prog.wantsStandIn t = false by simpa using List.all_eq_true.1 hall t hm)⟩)
    (by kernel_rfl)
end Go.Proofs.YtcfgacdcgljbaaaGreatDoor.ledgerPosts
namespace Go.Proofs.YtcfgacdcgljbaaaGreatDoor
theorem ledgerPosts_holds : Rows.LedgerPostsCardSaid := ledgerPosts.card
end Go.Proofs.YtcfgacdcgljbaaaGreatDoor
#print axioms Go.Proofs.YtcfgacdcgljbaaaGreatDoor.ledgerPosts_holds
