import Derived.Test.YtnijeacloblliaaGreatDoorRows
import Derived.LaidByTextLater
import Derived.SevenTiedAt
namespace Go.Proofs.YtnijeacloblliaaGreatDoor
open Go
theorem pin_laid_unicode_utf8_first:Tryz.pinned.checked.prog.pinnedFits "unicode/utf8.first" = true:=by kernel_rfl
theorem noOwnUnsafe:Tryz.pinned.checked.prog.headLifts.contains "ownunsafe" = false:=by kernel_rfl
theorem fits1:Tryz.pinned.checked.prog.listedFits [("internal/strconv.uint64pow10",Rows.laid_internal_strconv_uint64pow10),("math/bits.deBruijn32tab",Rows.laid_math_bits_deBruijn32tab),("math/bits.deBruijn64tab",Rows.laid_math_bits_deBruijn64tab),("tallyman/day.lengths",Rows.laid_tallyman_day_lengths),("errors.errorType",Rows.laid_errors_errorType),("strconv.ErrSyntax",Rows.laid_strconv_ErrSyntax),("strconv.ErrRange",Rows.laid_strconv_ErrRange),("unicode/utf8.first",Rows.laid_unicode_utf8_first),("unicode/utf8.acceptRanges",Rows.laid_unicode_utf8_acceptRanges),("tallyman/event.words",Rows.laid_tallyman_event_words)]=true:=by
 unfold Program.listedFits
 rw [noOwnUnsafe]
 kernel_rfl
def laidA:List (String × DataW Unit):=[("internal/strconv.uint64pow10",Rows.laid_internal_strconv_uint64pow10),("math/bits.deBruijn32tab",Rows.laid_math_bits_deBruijn32tab),("math/bits.deBruijn64tab",Rows.laid_math_bits_deBruijn64tab),("tallyman/day.lengths",Rows.laid_tallyman_day_lengths),("errors.errorType",Rows.laid_errors_errorType),("strconv.ErrSyntax",Rows.laid_strconv_ErrSyntax),("strconv.ErrRange",Rows.laid_strconv_ErrRange),("unicode/utf8.acceptRanges",Rows.laid_unicode_utf8_acceptRanges),("tallyman/event.words",Rows.laid_tallyman_event_words)]
theorem tqA_w:Tryz.prog.worded (varsWordLater true)=true:=by kernel_rfl
theorem tqA_v:Tryz.prog.worded (varsWordLater !true)=false:=by kernel_rfl
theorem tqA_r:Tryz.prog.worded rootWordLater=true:=by kernel_rfl
theorem tqA_k:laidA.map (fun x=>Tryz.prog.kindOfLater x.1)=([.data,.data,.data,.data,.handle,.sentinel,.sentinel,.data,.data]:List LaidKind).map some:=by kernel_rfl
theorem tqA_g:(Tryz.prog.funcNamed "gosem.cut.vars").isSome=true:=by kernel_rfl
theorem tqA_n:varsNamedLaterB Tryz.prog (varsId Tryz.prog) laidA=true:=by kernel_rfl
theorem tqA_d:∀ os tape,varsDone Tryz.prog 400 (varsId Tryz.prog) os tape=true:=fun _ _=>by kernel_rfl
theorem tqA_h1:∀ os tape,(DataW.laidRun Tryz.prog (varsWorld Tryz.prog 400 (varsId Tryz.prog) os tape).memory 8 ((laidA.filter fun x=>x.2.handleName?.isNone).map (·.1))).map (·.1)=some (laidA.filter fun x=>x.2.handleName?.isNone):=fun _ _=>by kernel_rfl
theorem tqA_h2:∀ os tape,(DataW.laidRun Tryz.prog (varsWorld Tryz.prog 400 (varsId Tryz.prog) os tape).memory 8 ((laidA.filter fun x=>x.2.handleName?.isNone).map (·.1))).map (fun x=>decide x.2.Nodup && laidRowsB Tryz.prog (varsWorld Tryz.prog 400 (varsId Tryz.prog) os tape).memory x.2)=some true:=fun _ _=>by kernel_rfl
theorem tqA_h3:∀ os tape,(laidA.filter fun x=>x.2.handleName?.isSome).all (handleAtB Tryz.prog (varsWorld Tryz.prog 400 (varsId Tryz.prog) os tape).memory)=true:=fun _ _=>by kernel_rfl
theorem tie:Tryz.prog.laidByTextLater laidA [.data,.data,.data,.data,.handle,.sentinel,.sentinel,.data,.data] true:=
 Program.laidByTextLater_by_run_h 400 8 tqA_w tqA_v tqA_r tqA_k tqA_g tqA_n tqA_d tqA_h1 tqA_h2 tqA_h3
theorem deskPieces_row_tie:Rows.deskPiecesRow.laidByTextAt .later Tryz.pinned [.data,.data,.data,.data,.handle,.sentinel,.sentinel,.pinned,.data,.data] true:=
 OpenClaim.laidByTextAt_pinned rfl rfl tie rfl rfl rfl rfl (fun y hy _e=>by
  simp only [Rows.deskPiecesRow,List.zip_cons_cons,List.zip_nil_right,List.mem_cons,List.mem_nil_iff,or_false] at hy
  rcases hy with rfl | rfl | rfl | rfl | rfl | rfl | rfl | rfl | rfl | rfl
  ·cases _e
  ·cases _e
  ·cases _e
  ·cases _e
  ·cases _e
  ·cases _e
  ·cases _e
  ·exact ⟨pin_laid_unicode_utf8_first,by kernel_rfl⟩
  ·cases _e
  ·cases _e) fits1
theorem deskAnswers_row_tie:Rows.deskAnswersRow.laidByTextAt .later Tryz.pinned [.data,.data,.data,.data,.handle,.sentinel,.sentinel,.pinned,.data,.data] true:=
 OpenClaim.laidByTextAt_pinned rfl rfl tie rfl rfl rfl rfl (fun y hy _e=>by
  simp only [Rows.deskAnswersRow,List.zip_cons_cons,List.zip_nil_right,List.mem_cons,List.mem_nil_iff,or_false] at hy
  rcases hy with rfl | rfl | rfl | rfl | rfl | rfl | rfl | rfl | rfl | rfl
  ·cases _e
  ·cases _e
  ·cases _e
  ·cases _e
  ·cases _e
  ·cases _e
  ·cases _e
  ·exact ⟨pin_laid_unicode_utf8_first,by kernel_rfl⟩
  ·cases _e
  ·cases _e) fits1
end Go.Proofs.YtnijeacloblliaaGreatDoor
