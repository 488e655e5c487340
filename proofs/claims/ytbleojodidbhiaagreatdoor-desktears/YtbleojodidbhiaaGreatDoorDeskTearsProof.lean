/- PROVED HERE: for every list of texts and every number tallymankeep.DeskTears returns true, and leaves its arguments as they were, where the package-level variables that its row lists hold what the program's text lays (the tied card Rows.DeskTearsCardSaid). No other condition. -/
import Derived.Test.YtbleojodidbhiaaGreatDoorBnTr
import Derived.Test.YtbleojodidbhiaaGreatDoorCards
import Derived.Test.YtbleojodidbhiaaGreatDoorTie
import Derived.ShutString
import Derived.ChangeOld
import Derived.LaidHandle
import Derived.Lay
import Derived.Lib.LaidTab
import Derived.Stop.LaidErr
import Derived.Stop.Joined
import Derived.SevenTiedAt
import Derived.Shelf.Vars
namespace Go.Proofs.YtbleojodidbhiaaGreatDoor.deskTears
open Go.Proofs.YtbleojodidbhiaaGreatDoor
open Go.ChangeShapes Go.WideShapes Go.ChangeAt Go.RowKit
open Go.ChangeMaps (open_string shut_string)
set_option linter.unusedVariables false
theorem own : ownKnob Tryz.prog.godebug = none := by kernel_rfl
theorem laidOut : laidOutB Tryz.prog = true := by kernel_rfl
theorem et : Tryz.prog.globalNamed "errors.errorType" = some 8 := by kernel_rfl
theorem rt : (Tryz.prog.cutTypes.find? (·.1 == "internal/reflectlite.rtype")).map (·.2) = some 329 := by kernel_rfl
theorem oneRow : ((List.range 376).filter fun t => Tryz.prog.rowNamed t [101, 114, 114, 111, 114]) = [41] := by kernel_rfl
theorem ntypes : Tryz.prog.types.size = 376 := by kernel_rfl
theorem tabType : (Tryz.prog.globals[4]?).map (·.type) = some 246 := by kernel_rfl
theorem synType : (Tryz.prog.globals[11]?).map (·.type) = some 41 := by kernel_rfl
theorem rngType : (Tryz.prog.globals[12]?).map (·.type) = some 41 := by kernel_rfl
theorem star : "*" ++ "errors.errorString" = "*errors.errorString" := by decide
theorem rowErr (u : TypeId) (h : Tryz.prog.typeName? 3 u = some "*errors.errorString") : u = 343 :=
  typeName_ptr_named (nm := "errors.errorString") (by rw [star]; kernel_rfl) (by kernel_rfl) (by decide) u (by rw [star]; exact h)
/-- What the listed variables give the walks. -/
theorem lib_of {W : World} (h : laidMetH Tryz.prog Rows.deskTearsRow.laid W) (hsh : W.ShapedOpen Tryz.prog) : ErrType W ∧ GlobN W := by
  have h' : laidMet Tryz.prog (Rows.deskTearsRow.laid.filter fun x => x.2.handleName?.isNone) W ∧ handlesMet Tryz.prog (Rows.deskTearsRow.laid.filter fun x => x.2.handleName?.isSome) W := h
  have hp : laidMet Tryz.prog [("math/bits.deBruijn32tab", Rows.laid_math_bits_deBruijn32tab), ("math/bits.deBruijn64tab", Rows.laid_math_bits_deBruijn64tab), ("internal/strconv.uint64pow10", Rows.laid_internal_strconv_uint64pow10), ("unicode/utf8.acceptRanges", Rows.laid_unicode_utf8_acceptRanges), ("strconv.ErrRange", Rows.laid_strconv_ErrRange), ("strconv.ErrSyntax", Rows.laid_strconv_ErrSyntax), ("tallyman/day.lengths", Rows.laid_tallyman_day_lengths), ("unicode.White_Space", Rows.laid_unicode_White_Space), ("strings.asciiSpace", Rows.laid_strings_asciiSpace), ("tallyman/event.words", Rows.laid_tallyman_event_words), ("unicode/utf8.first", Rows.laid_unicode_utf8_first)] W := h'.1
  obtain ⟨name, u, ty, e1, e2, e3, e4, e5⟩ := h'.2 _ (List.mem_singleton.2 rfl)
  have en : name = [101, 114, 114, 111, 114] := (Option.some.inj e1).symm
  subst en
  obtain rfl := Option.some.inj (rt.symm.trans e2)
  have hm : ty ∈ (List.range 376).filter fun t => Tryz.prog.rowNamed t [101, 114, 114, 111, 114] := List.mem_filter.2 ⟨List.mem_range.2 (by rw [← ntypes]; exact e3), e4⟩
  rw [oneRow] at hm
  obtain rfl := List.mem_singleton.1 hm
  have hh : typeHandle Tryz.prog 41 = .pointer (some ⟨14, 41, none⟩) := by kernel_rfl
  rw [hh] at e5
  refine ⟨by unfold ErrType; simpa using World.var?_cell et e5 0, ⟨?_, ?_, ?_, ?_⟩⟩
  · exact Lib.tabIs_of_head (k := .u64) (zs := Lib.pow10Tab) Tryz.gTabN tabType Tryz.underlying246 Tryz.underlying190 (by kernel_rfl) (by kernel_rfl) (show laidMet Tryz.prog (("internal/strconv.uint64pow10", Lib.tabData .u64 Lib.pow10Tab) :: _) W from hp.tail.tail)
  · obtain ⟨a0, s0, hv0, -, -, -⟩ := laid_sentinel hp.tail.tail.tail.tail.tail Tryz.gSynN synType Tryz.underlying41 rowErr Tryz.underlying343 Tryz.underlying345 rfl rfl Tryz.underlying9 (by kernel_rfl) (by kernel_rfl)
    exact ⟨_, _, hv0⟩
  · obtain ⟨a0, s0, hv0, -, -, -⟩ := laid_sentinel hp.tail.tail.tail.tail Tryz.gRngN rngType Tryz.underlying41 rowErr Tryz.underlying343 Tryz.underlying345 rfl rfl Tryz.underlying9 (by kernel_rfl) (by kernel_rfl)
    exact ⟨_, _, hv0⟩
  · exact cell_of_shapedOpen_int (zero := #[.int .i64 0]) (t := 3) hsh (of_decide_eq_true (by kernel_rfl)) (by kernel_rfl) rfl (by kernel_rfl) (by kernel_rfl) Tryz.underlying3
/-- The heap at a start, the handle's one cell laid. -/
def handled (w : World) : World := { w with heap := w.heap.modify 8 fun
  | .cells _ t frozen => .cells #[.iface 329 (.agg #[.pointer (some ⟨14, 41, none⟩)])] t frozen
  | o => o }
theorem gLen : Tryz.prog.globalNamed "tallyman/day.lengths" = some 7 := by kernel_rfl
theorem lenType : (Tryz.prog.globals[7]?).map (·.type) = some 295 := by kernel_rfl
theorem glob_ofH {W : World} (h : laidMetH Tryz.prog Rows.deskTearsRow.laid W) (hsh : W.ShapedOpen Tryz.prog) : ErrType W ∧ GlobH W := by
  have h' : laidMet Tryz.prog (Rows.deskTearsRow.laid.filter fun x => x.2.handleName?.isNone) W ∧ handlesMet Tryz.prog (Rows.deskTearsRow.laid.filter fun x => x.2.handleName?.isSome) W := h
  have hp : laidMet Tryz.prog [("math/bits.deBruijn32tab", Rows.laid_math_bits_deBruijn32tab), ("math/bits.deBruijn64tab", Rows.laid_math_bits_deBruijn64tab), ("internal/strconv.uint64pow10", Rows.laid_internal_strconv_uint64pow10), ("unicode/utf8.acceptRanges", Rows.laid_unicode_utf8_acceptRanges), ("strconv.ErrRange", Rows.laid_strconv_ErrRange), ("strconv.ErrSyntax", Rows.laid_strconv_ErrSyntax), ("tallyman/day.lengths", Rows.laid_tallyman_day_lengths), ("unicode.White_Space", Rows.laid_unicode_White_Space), ("strings.asciiSpace", Rows.laid_strings_asciiSpace), ("tallyman/event.words", Rows.laid_tallyman_event_words), ("unicode/utf8.first", Rows.laid_unicode_utf8_first)] W := h'.1
  refine ⟨(lib_of h hsh).1, ⟨⟨(lib_of h hsh).2, ?_, ?_⟩⟩⟩
  · have ht := Lib.tabIs_of_head (k := .i64) (zs := [31, 28, 31, 30, 31, 30, 31, 31, 30, 31, 30, 31]) gLen lenType Tryz.underlying295 Tryz.underlying3 (by kernel_rfl) (by kernel_rfl) (show laidMet Tryz.prog (("tallyman/day.lengths", Lib.tabData .i64 [31, 28, 31, 30, 31, 30, 31, 31, 30, 31, 30, 31]) :: _) W from hp.tail.tail.tail.tail.tail.tail)
    intro k hk
    rw [World.var?_cell gLen ht k]
    have : k = 0 ∨ k = 1 ∨ k = 2 ∨ k = 3 ∨ k = 4 ∨ k = 5 ∨ k = 6 ∨ k = 7 ∨ k = 8 ∨ k = 9 ∨ k = 10 ∨ k = 11 := by omega
    rcases this with rfl | rfl | rfl | rfl | rfl | rfl | rfl | rfl | rfl | rfl | rfl | rfl <;> rfl
  · exact words_of (rest := _) (show laidMet Tryz.prog (("tallyman/event.words", strData [[], [105, 110], [99, 104, 97, 114, 103, 101], [111, 117, 116], [99, 111, 117, 110, 116]]) :: _) W from hp.tail.tail.tail.tail.tail.tail.tail.tail.tail)
theorem glob_of {W : World} (h : laidMetH Tryz.prog Rows.deskTearsRow.laid W) (hsh : W.ShapedOpen Tryz.prog) : GlobT W := by
  have h' : laidMet Tryz.prog (Rows.deskTearsRow.laid.filter fun x => x.2.handleName?.isNone) W ∧ handlesMet Tryz.prog (Rows.deskTearsRow.laid.filter fun x => x.2.handleName?.isSome) W := h
  have hp : laidMet Tryz.prog [("math/bits.deBruijn32tab", Rows.laid_math_bits_deBruijn32tab), ("math/bits.deBruijn64tab", Rows.laid_math_bits_deBruijn64tab), ("internal/strconv.uint64pow10", Rows.laid_internal_strconv_uint64pow10), ("unicode/utf8.acceptRanges", Rows.laid_unicode_utf8_acceptRanges), ("strconv.ErrRange", Rows.laid_strconv_ErrRange), ("strconv.ErrSyntax", Rows.laid_strconv_ErrSyntax), ("tallyman/day.lengths", Rows.laid_tallyman_day_lengths), ("unicode.White_Space", Rows.laid_unicode_White_Space), ("strings.asciiSpace", Rows.laid_strings_asciiSpace), ("tallyman/event.words", Rows.laid_tallyman_event_words), ("unicode/utf8.first", Rows.laid_unicode_utf8_first)] W := h'.1
  refine ⟨⟨(glob_ofH h hsh).2, (glob_ofH h hsh).1⟩, ?_, white_of (Lib.laidMet.reads hp.tail.tail.tail.tail.tail.tail.tail List.mem_cons_self)⟩
  have e : Rows.laid_strings_asciiSpace (H := Unit) = Lib.tabData .u8 Lib.asciiSpaceTab := by kernel_rfl
  have ht := hp.tail.tail.tail.tail.tail.tail.tail.tail
  rw [e] at ht
  exact Lib.tabIs_of_head (k := .u8) (zs := Lib.asciiSpaceTab) gSpT spaceType Tryz.underlying57 Tryz.underlying5 (by kernel_rfl) (by kernel_rfl) ht
set_option maxRecDepth 100000 in
theorem start_met (os : Os) (args : Array Value) : laidMetH Tryz.prog Rows.deskTearsRow.laid (((handled (World.holding Tryz.prog os ⟨#[], #[], []⟩)).layVars Tryz.prog [("math/bits.deBruijn32tab", Rows.laid_math_bits_deBruijn32tab), ("math/bits.deBruijn64tab", Rows.laid_math_bits_deBruijn64tab), ("internal/strconv.uint64pow10", Rows.laid_internal_strconv_uint64pow10), ("unicode/utf8.acceptRanges", Rows.laid_unicode_utf8_acceptRanges), ("strconv.ErrRange", Rows.laid_strconv_ErrRange), ("strconv.ErrSyntax", Rows.laid_strconv_ErrSyntax), ("tallyman/day.lengths", Rows.laid_tallyman_day_lengths), ("unicode.White_Space", Rows.laid_unicode_White_Space), ("strings.asciiSpace", Rows.laid_strings_asciiSpace), ("tallyman/event.words", Rows.laid_tallyman_event_words), ("unicode/utf8.first", Rows.laid_unicode_utf8_first)]).forCall (fun _ _ => 0) ⟨#[], args, []⟩).memory := by
  have h : laidMet Tryz.prog [("math/bits.deBruijn32tab", Rows.laid_math_bits_deBruijn32tab), ("math/bits.deBruijn64tab", Rows.laid_math_bits_deBruijn64tab), ("internal/strconv.uint64pow10", Rows.laid_internal_strconv_uint64pow10), ("unicode/utf8.acceptRanges", Rows.laid_unicode_utf8_acceptRanges), ("strconv.ErrRange", Rows.laid_strconv_ErrRange), ("strconv.ErrSyntax", Rows.laid_strconv_ErrSyntax), ("tallyman/day.lengths", Rows.laid_tallyman_day_lengths), ("unicode.White_Space", Rows.laid_unicode_White_Space), ("strings.asciiSpace", Rows.laid_strings_asciiSpace), ("tallyman/event.words", Rows.laid_tallyman_event_words), ("unicode/utf8.first", Rows.laid_unicode_utf8_first)] ((handled (World.holding Tryz.prog os ⟨#[], #[], []⟩)).layVars Tryz.prog [("math/bits.deBruijn32tab", Rows.laid_math_bits_deBruijn32tab), ("math/bits.deBruijn64tab", Rows.laid_math_bits_deBruijn64tab), ("internal/strconv.uint64pow10", Rows.laid_internal_strconv_uint64pow10), ("unicode/utf8.acceptRanges", Rows.laid_unicode_utf8_acceptRanges), ("strconv.ErrRange", Rows.laid_strconv_ErrRange), ("strconv.ErrSyntax", Rows.laid_strconv_ErrSyntax), ("tallyman/day.lengths", Rows.laid_tallyman_day_lengths), ("unicode.White_Space", Rows.laid_unicode_White_Space), ("strings.asciiSpace", Rows.laid_strings_asciiSpace), ("tallyman/event.words", Rows.laid_tallyman_event_words), ("unicode/utf8.first", Rows.laid_unicode_utf8_first)]) :=
    laidMet_layVars (w0 := (handled (World.holding Tryz.prog os ⟨#[], #[], []⟩))) ["math/bits.deBruijn32tab", "math/bits.deBruijn64tab", "internal/strconv.uint64pow10", "unicode/utf8.acceptRanges", "strconv.ErrRange", "strconv.ErrSyntax", "tallyman/day.lengths", "unicode.White_Space", "strings.asciiSpace", "tallyman/event.words", "unicode/utf8.first"] [] (by kernel_rfl) (by kernel_rfl) (by kernel_rfl) LaidIn.none
  exact laidMetH_of_parts (h.of_heap (by simp [World.memory, World.forCall, Input.heap])) (by kernel_rfl)
set_option maxRecDepth 100000 in
theorem lifted (os : Os) (started : os.Started) (H : Type) (enc : TypeId × Value → H) :
    ReturnsInHanded {} Tryz.checked os 3 .any (fun w args => (Rows.deskTearsSpec.pre enc Tryz.prog Tryz.f3 Rows.deskTearsRow.domain false w args ∧ laidMetH Tryz.prog Rows.deskTearsRow.laid w) ∧ sizedMet enc Tryz.prog Tryz.f3 (OpenSpec.ofChange Rows.deskTearsSpec) false w args)
      (Rows.deskTearsSpec.post enc Tryz.prog Tryz.f3 false true false false) := by
  refine returnsInHanded_of_calls (C := Tryz.checked) own started (by kernel_rfl)
    (ChangeSpec.witness_shaped (enc := enc) (C := Tryz.checked) (os := os) (X := fun w _ => laidMetH Tryz.prog Rows.deskTearsRow.laid w) false ((handled (World.holding Tryz.prog os ⟨#[], #[], []⟩)).layVars Tryz.prog [("math/bits.deBruijn32tab", Rows.laid_math_bits_deBruijn32tab), ("math/bits.deBruijn64tab", Rows.laid_math_bits_deBruijn64tab), ("internal/strconv.uint64pow10", Rows.laid_internal_strconv_uint64pow10), ("unicode/utf8.acceptRanges", Rows.laid_unicode_utf8_acceptRanges), ("strconv.ErrRange", Rows.laid_strconv_ErrRange), ("strconv.ErrSyntax", Rows.laid_strconv_ErrSyntax), ("tallyman/day.lengths", Rows.laid_tallyman_day_lengths), ("unicode.White_Space", Rows.laid_unicode_White_Space), ("strings.asciiSpace", Rows.laid_strings_asciiSpace), ("tallyman/event.words", Rows.laid_tallyman_event_words), ("unicode/utf8.first", Rows.laid_unicode_utf8_first)]) #[.slice none 0 0, .int .i64 0] 8 (World.layVars_os _ _ _)
      (World.shaped_of_ZipB (by kernel_rfl) (by kernel_rfl)) (by kernel_rfl) (by kernel_rfl) (by kernel_rfl) (start_met os _)) ?_
  intro w tape i _ hsh _ hok hpre _
  obtain ⟨_, _, _, fn', hfn', _, _, _, _, hval0⟩ := hok
  obtain rfl : fn' = Tryz.f3 := Option.some.inj (hfn'.symm.trans Tryz.func3)
  obtain ⟨⟨⟨ds, gs, before, hw, _⟩, hL0⟩, _⟩ := hpre
  have hW := DataW.Whole.of_heap (w' := w.forCall tape i) (by rfl) hw
  have hL : laidMetH Tryz.prog Rows.deskTearsRow.laid (w.forCall tape i) := hL0.of_heap (by rfl)
  clear hw hL0
  suffices hs : Calls Tryz.prog 3 i.args (w.forCall tape i) fun e W' => ∃ v, e = .returned v ∧ Rows.deskTearsSpec.post enc Tryz.prog Tryz.f3 false true false false (w.forCall tape i) i.args v W' from
    hs.mono fun e W' ⟨v, he, hp⟩ => by subst he; exact ChangeSpec.post_blind hp
  generalize i.args = args at *
  generalize w.forCall tape i = W at *
  have hgl := glob_of hL hsh
  have hval : ∀ (j : Nat) t v, Tryz.f3.params[j]? = some t → args[j]? = some v → Value.okWide Tryz.prog W .any w.heap.size t v := hval0
  have hW' := hW
  obtain ⟨p, q, hA0, hV, rfl, hfz, hnd⟩ := hW
  have hA : DataW.TrodAll enc Tryz.prog W 0 (fun _ => true) true Tryz.f3.params.toList args.toList ds p := hA0
  rw [Tryz.params3] at hA hval
  obtain ⟨v0, vs0, d0, ds0, p0, q0, hargs, rfl, rfl, h0, r0⟩ := trodAll_cons hA
  obtain ⟨v1, vs1, d1, ds1, p1, q1, rfl, rfl, rfl, h1, r1⟩ := trodAll_cons r0
  obtain ⟨rfl, rfl, rfl⟩ := trodAll_nil r1
  obtain rfl : args = #[v0, v1] := by cases args; simp_all
  obtain ⟨rfl, rfl⟩ := trodVars_none hV
  obtain ⟨a0, len0, cap0, rfl⟩ := okWide_slice Tryz.underlying22 (hval 0 22 v0 rfl rfl)
  have k0 := h0
  have lt0 : ∀ x ∈ p0, x.block < W.heap.size := by obtain ⟨m, hm⟩ := k0; exact DataW.trod_lt m _ _ _ hm
  obtain ⟨l0, hl0, hev0, hat0, hcp0, hmx0⟩ : ∃ l : List (List UInt8), len0 = l.length ∧ (∀ t ∈ l, t.length ≤ maxLen) ∧ StrsC W a0 l ∧ l.length ≤ cap0 ∧ cap0 ≤ maxLen := by
    obtain ⟨fuel, hf⟩ := h0
    obtain ⟨ao, cap, l, hcs, hev, hat, hcp, hm⟩ := open_strs hf
    simp [Value.cells] at hcs
    obtain ⟨rfl, rfl, rfl⟩ := hcs
    exact ⟨l, rfl, hev, hat, hcp, hm⟩
  subst hl0
  obtain ⟨a1, rfl, rfl, rfl, w1⟩ := open_int Tryz.underlying3 (hval 1 3 v1 rfl rfl) h1
  clear hA0 hval0
  refine (tears_walk2 a0 cap0 l0 a1 W hgl hev0 hat0 hcp0 hmx0 w1).mono fun e W' ⟨he, bel⟩ => ?_
  subst he
  exact ⟨_, rfl, _, _, _, [], _, [], hW', trodAll_mk1 (shut_bool Tryz.underlying4 _), (trodAll_cons_mk (Below.trod laidOut (by kernel_rfl) (of_decide_eq_true (by kernel_rfl)) k0 bel lt0) (trodAll_cons_mk (shut_int Tryz.underlying3 w1) trodAll_mk0)), rfl, bel.frame _, fun h => by cases h⟩
set_option maxHeartbeats 40000000 in
theorem jfacts : joinedFacts Tryz.pinned.checked.prog 3 Tryz.f3 Rows.deskTearsSpec Rows.deskTearsRow = true := by
  unfold joinedFacts
  simp only [Bool.and_eq_true]
  repeat' apply And.intro
  all_goals (as_aux_lemma => kernel_rfl)
set_option maxHeartbeats 40000000 in
theorem over : Rows.DeskTearsSaid :=
  OpenClaim.holds_of_wide 3 Tryz.f3 rfl rfl rfl rfl rfl rfl rfl ⟨rfl, rfl, rfl, rfl, rfl⟩ rfl rfl rfl rfl rfl (by as_aux_lemma => kernel_rfl) Tryz.func3 jfacts
    (of_decide_eq_true (by as_aux_lemma => kernel_rfl)) (by unfold Func.isWrapper; first | (rw [if_pos (by decide +kernel)]; kernel_rfl) | (rw [if_neg (by decide +kernel)]; exact ⟨rfl, rfl⟩))
    (fun os started H enc _ => lifted os started H enc)
set_option maxHeartbeats 40000000 in
theorem card : Rows.DeskTearsCardSaid :=
  Claim7.holds_tied_plain_at .later [] [.data, .data, .data, .data, .handle, .sentinel, .sentinel, .data, .listed, .data, .data, .pinned] true (true, "52c9c9f945f3eeb5f7c79e8710502f954dd4988aa1e110302417e9d58d34bb05") true
    over (fun _ h => by cases h) (by as_aux_lemma => kernel_rfl) (fun _ h => by cases h) deskTears_row_tie rfl ⟨rfl, rfl⟩ (by as_aux_lemma => kernel_rfl) rfl
    (fun f fn hf hfn => by
      obtain rfl : f = 3 := Option.some.inj ((show Tryz.prog.funcNamed "tallyman/tallymankeep.DeskTears" = some 3 by kernel_rfl).symm.trans hf) |>.symm
      obtain rfl : fn = Tryz.f3 := (Option.some.inj (Tryz.func3.symm.trans hfn)).symm
      exact ⟨by as_aux_lemma => kernel_rfl, fun j t ht => by
        rw [Tryz.params3] at ht
        have hm : t ∈ [22, 3] := by simpa using Array.mem_of_getElem? ht
        have hall : ([22, 3].all fun u => !Tryz.prog.wantsStandIn u) = true := by kernel_rfl
        exact (show Tryz.prog.wantsStandIn t = false by simpa using List.all_eq_true.1 hall t hm)⟩)
    (by as_aux_lemma => kernel_rfl)
end Go.Proofs.YtbleojodidbhiaaGreatDoor.deskTears
namespace Go.Proofs.YtbleojodidbhiaaGreatDoor
theorem deskTears_holds : Rows.DeskTearsCardSaid := deskTears.card
end Go.Proofs.YtbleojodidbhiaaGreatDoor
#print axioms Go.Proofs.YtbleojodidbhiaaGreatDoor.deskTears_holds
