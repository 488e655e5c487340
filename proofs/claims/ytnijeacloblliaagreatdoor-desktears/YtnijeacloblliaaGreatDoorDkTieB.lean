import Derived.Test.YtnijeacloblliaaGreatDoorRows
import Derived.LaidByTextLater
import Derived.SevenTiedAt
namespace Go.Proofs.YtnijeacloblliaaGreatDoor
open Go
theorem pin_laid_unicode_utf8_first:Tryz.pinned.checked.prog.pinnedFits "unicode/utf8.first" = true:=by kernel_rfl
theorem noOwnUnsafe:Tryz.pinned.checked.prog.headLifts.contains "ownunsafe" = false:=by kernel_rfl
theorem fits2:Tryz.pinned.checked.prog.listedFits [("unicode/utf8.first",Rows.laid_unicode_utf8_first),("unicode/utf8.acceptRanges",Rows.laid_unicode_utf8_acceptRanges),("tallyman/day.lengths",Rows.laid_tallyman_day_lengths),("tallyman/event.words",Rows.laid_tallyman_event_words),("strconv.ErrSyntax",Rows.laid_strconv_ErrSyntax),("strconv.ErrRange",Rows.laid_strconv_ErrRange),("internal/strconv.uint64pow10",Rows.laid_internal_strconv_uint64pow10),("math/bits.deBruijn32tab",Rows.laid_math_bits_deBruijn32tab),("math/bits.deBruijn64tab",Rows.laid_math_bits_deBruijn64tab),("strings.asciiSpace",Rows.laid_strings_asciiSpace),("unicode.White_Space",Rows.laid_unicode_White_Space),("errors.errorType",Rows.laid_errors_errorType)]=true:=by
 unfold Program.listedFits
 rw [noOwnUnsafe]
 kernel_rfl
def chkP:List Nat→Nat→Nat→List MemPlace→Bool
 | _,_,_,[]=>true
 | seen,b,o,p :: r=>match p with
  | .cell b' o'=>if b'=b then decide (o < o') && chkP seen b o' r else !(seen.contains b') && chkP (b :: seen) b' o' r
  | .map _=>false
theorem chkP_spec:∀ (r:List MemPlace) (seen:List Nat) (b o:Nat),chkP seen b o r=true→r.Nodup∧∀ p ∈ r,∃ b' o',p = .cell b' o'∧((b'=b∧o < o')∨b' ∉ b :: seen)
 | [],_,_,_,_=>⟨List.nodup_nil,fun p hp=>by cases hp⟩
 | p :: r,seen,b,o,h=>by
  cases p with
  | map m=>cases h
  | cell b' o'=>
   simp only [chkP] at h
   by_cases e:b'=b
   ·rw [if_pos e,Bool.and_eq_true,decide_eq_true_eq] at h
    obtain ⟨h1,h2⟩:=h
    obtain ⟨i1,i2⟩:=chkP_spec r seen b o' h2
    refine ⟨List.nodup_cons.2 ⟨fun hm=>?_,i1⟩,fun q hq=>?_⟩
    ·obtain ⟨x,y,hxy,hz⟩:=i2 _ hm
     cases hxy
     rcases hz with hz | hz
     ·omega
     ·exact hz (by rw [e];exact List.mem_cons_self ..)
    ·rcases List.mem_cons.1 hq with rfl | hq
     ·exact ⟨b',o',rfl,Or.inl ⟨e,h1⟩⟩
     ·obtain ⟨x,y,hxy,hz⟩:=i2 q hq
      exact ⟨x,y,hxy,hz.imp (fun k=>⟨k.1,by omega⟩) id⟩
   ·rw [if_neg e,Bool.and_eq_true,Bool.not_eq_true'] at h
    obtain ⟨h1,h2⟩:=h
    have hns:b' ∉ seen:=fun hm=>by
     have:seen.contains b'=true:=List.contains_iff_mem.2 hm
     rw [this] at h1
     cases h1
    have hnb:b' ∉ b :: seen:=fun hm=>by
     rcases List.mem_cons.1 hm with hm | hm
     ·exact e hm
     ·exact hns hm
    obtain ⟨i1,i2⟩:=chkP_spec r (b :: seen) b' o' h2
    refine ⟨List.nodup_cons.2 ⟨fun hm=>?_,i1⟩,fun q hq=>?_⟩
    ·obtain ⟨x,y,hxy,hz⟩:=i2 _ hm
     cases hxy
     rcases hz with hz | hz
     ·omega
     ·exact hz (List.mem_cons_self ..)
    ·rcases List.mem_cons.1 hq with rfl | hq
     ·exact ⟨b',o',rfl,Or.inr hnb⟩
     ·obtain ⟨x,y,hxy,hz⟩:=i2 q hq
      refine ⟨x,y,hxy,Or.inr ?_⟩
      rcases hz with ⟨rfl,_⟩ | hz
      ·exact hnb
      ·exact fun hm=>hz (List.mem_cons_of_mem _ hm)
def chkPs:List MemPlace→Bool
 | .cell b o :: r=>chkP [] b o r
 | _=>false
theorem chkPs_nodup {ps:List MemPlace} (h:chkPs ps=true):ps.Nodup:=by
 cases ps with
 | nil=>cases h
 | cons p r=>
  cases p with
  | map m=>cases h
  | cell b o=>
   obtain ⟨i1,i2⟩:=chkP_spec r [] b o h
   refine List.nodup_cons.2 ⟨fun hm=>?_,i1⟩
   obtain ⟨x,y,hxy,hz⟩:=i2 _ hm
   cases hxy
   rcases hz with hz | hz
   ·omega
   ·exact hz (List.mem_cons_self ..)
theorem optComb {α:Type} {r:Option α} {f g k:α→Bool} (h1:r.map f=some true) (h2:r.map g=some true) (hk:∀ x,f x=true→g x=true→k x=true):r.map k=some true:=by
 cases r with
 | none=>cases h1
 | some x=>exact congrArg some (hk x (Option.some.inj h1) (Option.some.inj h2))
def laidB:List (String × DataW Unit):=[("unicode/utf8.acceptRanges",Rows.laid_unicode_utf8_acceptRanges),("tallyman/day.lengths",Rows.laid_tallyman_day_lengths),("tallyman/event.words",Rows.laid_tallyman_event_words),("strconv.ErrSyntax",Rows.laid_strconv_ErrSyntax),("strconv.ErrRange",Rows.laid_strconv_ErrRange),("internal/strconv.uint64pow10",Rows.laid_internal_strconv_uint64pow10),("math/bits.deBruijn32tab",Rows.laid_math_bits_deBruijn32tab),("math/bits.deBruijn64tab",Rows.laid_math_bits_deBruijn64tab),("strings.asciiSpace",Rows.laid_strings_asciiSpace),("unicode.White_Space",Rows.laid_unicode_White_Space),("errors.errorType",Rows.laid_errors_errorType)]
theorem tqB_w:Tryz.prog.worded (varsWordLater true)=true:=by kernel_rfl
theorem tqB_v:Tryz.prog.worded (varsWordLater !true)=false:=by kernel_rfl
theorem tqB_r:Tryz.prog.worded rootWordLater=true:=by kernel_rfl
theorem tqB_k:laidB.map (fun x=>Tryz.prog.kindOfLater x.1)=([.data,.data,.data,.sentinel,.sentinel,.data,.data,.data,.data,.listed,.handle]:List LaidKind).map some:=by kernel_rfl
theorem tqB_g:(Tryz.prog.funcNamed "gosem.cut.vars").isSome=true:=by kernel_rfl
theorem tqB_n:varsNamedLaterB Tryz.prog (varsId Tryz.prog) laidB=true:=by kernel_rfl
theorem tqB_d:∀ os tape,varsDone Tryz.prog 400 (varsId Tryz.prog) os tape=true:=fun _ _=>by kernel_rfl
theorem tqB_h1:∀ os tape,(DataW.laidRun Tryz.prog (varsWorld Tryz.prog 400 (varsId Tryz.prog) os tape).memory 8 ((laidB.filter fun x=>x.2.handleName?.isNone).map (·.1))).map (·.1)=some (laidB.filter fun x=>x.2.handleName?.isNone):=fun _ _=>by kernel_rfl
theorem tqB_h2a:∀ os tape,(DataW.laidRun Tryz.prog (varsWorld Tryz.prog 400 (varsId Tryz.prog) os tape).memory 8 ((laidB.filter fun x=>x.2.handleName?.isNone).map (·.1))).map (fun x=>chkPs x.2)=some true:=fun _ _=>by kernel_rfl
theorem tqB_h2b:∀ os tape,(DataW.laidRun Tryz.prog (varsWorld Tryz.prog 400 (varsId Tryz.prog) os tape).memory 8 ((laidB.filter fun x=>x.2.handleName?.isNone).map (·.1))).map (fun x=>laidRowsB Tryz.prog (varsWorld Tryz.prog 400 (varsId Tryz.prog) os tape).memory x.2)=some true:=fun _ _=>by kernel_rfl
theorem tqB_h2:∀ os tape,(DataW.laidRun Tryz.prog (varsWorld Tryz.prog 400 (varsId Tryz.prog) os tape).memory 8 ((laidB.filter fun x=>x.2.handleName?.isNone).map (·.1))).map (fun x=>decide x.2.Nodup && laidRowsB Tryz.prog (varsWorld Tryz.prog 400 (varsId Tryz.prog) os tape).memory x.2)=some true:=fun os tape=>optComb (tqB_h2a os tape) (tqB_h2b os tape) (fun x a b=>by rw [Bool.and_eq_true];exact ⟨decide_eq_true (chkPs_nodup a),b⟩)
theorem tqB_h3:∀ os tape,(laidB.filter fun x=>x.2.handleName?.isSome).all (handleAtB Tryz.prog (varsWorld Tryz.prog 400 (varsId Tryz.prog) os tape).memory)=true:=fun _ _=>by kernel_rfl
theorem tie2:Tryz.prog.laidByTextLater laidB [.data,.data,.data,.sentinel,.sentinel,.data,.data,.data,.data,.listed,.handle] true:=
 Program.laidByTextLater_by_run_h 400 8 tqB_w tqB_v tqB_r tqB_k tqB_g tqB_n tqB_d tqB_h1 tqB_h2 tqB_h3
theorem deskTears_row_tie:Rows.deskTearsRow.laidByTextAt .later Tryz.pinned [.pinned,.data,.data,.data,.sentinel,.sentinel,.data,.data,.data,.data,.listed,.handle] true:=
 OpenClaim.laidByTextAt_pinned rfl rfl tie2 rfl rfl rfl rfl (fun y hy _e=>by
  simp only [Rows.deskTearsRow,List.zip_cons_cons,List.zip_nil_right,List.mem_cons,List.mem_nil_iff,or_false] at hy
  rcases hy with rfl | rfl | rfl | rfl | rfl | rfl | rfl | rfl | rfl | rfl | rfl | rfl
  ·exact ⟨pin_laid_unicode_utf8_first,by kernel_rfl⟩
  ·cases _e
  ·cases _e
  ·cases _e
  ·cases _e
  ·cases _e
  ·cases _e
  ·cases _e
  ·cases _e
  ·cases _e
  ·cases _e
  ·cases _e) fits2
end Go.Proofs.YtnijeacloblliaaGreatDoor
