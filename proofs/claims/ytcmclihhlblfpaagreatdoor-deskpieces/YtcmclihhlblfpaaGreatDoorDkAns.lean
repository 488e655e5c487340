/-  -/
import Derived.Test.YtcmclihhlblfpaaGreatDoorBnQe
import Derived.Test.YtcmclihhlblfpaaGreatDoorBnDs
import Derived.Deep.DeepCutAuto
import Derived.Defers
import Derived.Recover
set_option linter.unusedVariables false
namespace Go.Proofs.YtcmclihhlblfpaaGreatDoor
open Go.RowKit
structure DkOk (h:Hs):Prop where
 ok:HsOk h
 n:h.ls.length≤10000
 x:HsX h
 md:Made h
 tt:totL h.ls≤100000
theorem desk_at (h:Hs) (ws:List (List UInt8)):deskA h dAt ws=atA h ws:=by unfold deskA;rw [if_pos rfl]
theorem desk_change (h:Hs) (ws:List (List UInt8)):deskA h dChange ws=changeA h ws:=by unfold deskA;rw [if_neg (by decide),if_pos rfl]
theorem desk_close (h:Hs) (ws:List (List UInt8)):deskA h wClose ws=doA h wClose ws:=by unfold deskA;rw [if_neg (by decide),if_neg (by decide),if_pos rfl]
theorem desk_closed (h:Hs) (ws:List (List UInt8)):deskA h dClosed ws=closedA h ws:=by unfold deskA;rw [if_neg (by decide),if_neg (by decide),if_neg (by decide),if_pos rfl]
theorem desk_correct (h:Hs) (ws:List (List UInt8)):deskA h wCorr ws=doA h wCorr ws:=by unfold deskA;rw [if_neg (by decide),if_neg (by decide),if_neg (by decide),if_neg (by decide),if_pos rfl]
theorem desk_day (h:Hs) (ws:List (List UInt8)):deskA h dDay ws=dayA h ws:=by unfold deskA;rw [if_neg (by decide),if_neg (by decide),if_neg (by decide),if_neg (by decide),if_neg (by decide),if_pos rfl]
theorem desk_events (h:Hs) (ws:List (List UInt8)):deskA h dEvents ws=eventsA h ws:=by unfold deskA;rw [if_neg (by decide),if_neg (by decide),if_neg (by decide),if_neg (by decide),if_neg (by decide),if_neg (by decide),if_pos rfl]
theorem desk_help (h:Hs) (ws:List (List UInt8)):deskA h dHelp ws=helpA h ws:=by unfold deskA;rw [if_neg (by decide),if_neg (by decide),if_neg (by decide),if_neg (by decide),if_neg (by decide),if_neg (by decide),if_neg (by decide),if_pos rfl]
theorem desk_history (h:Hs) (ws:List (List UInt8)):deskA h dHistory ws=historyA h ws:=by unfold deskA;rw [if_neg (by decide),if_neg (by decide),if_neg (by decide),if_neg (by decide),if_neg (by decide),if_neg (by decide),if_neg (by decide),if_neg (by decide),if_pos rfl]
theorem desk_moves (h:Hs) (ws:List (List UInt8)):deskA h dMoves ws=movesA h ws:=by unfold deskA;rw [if_neg (by decide),if_neg (by decide),if_neg (by decide),if_neg (by decide),if_neg (by decide),if_neg (by decide),if_neg (by decide),if_neg (by decide),if_neg (by decide),if_pos rfl]
theorem desk_months (h:Hs) (ws:List (List UInt8)):deskA h dMonths ws=monthsA h ws:=by unfold deskA;rw [if_neg (by decide),if_neg (by decide),if_neg (by decide),if_neg (by decide),if_neg (by decide),if_neg (by decide),if_neg (by decide),if_neg (by decide),if_neg (by decide),if_neg (by decide),if_pos rfl]
theorem desk_open (h:Hs) (ws:List (List UInt8)):deskA h dOpen ws=openA h ws:=by unfold deskA;rw [if_neg (by decide),if_neg (by decide),if_neg (by decide),if_neg (by decide),if_neg (by decide),if_neg (by decide),if_neg (by decide),if_neg (by decide),if_neg (by decide),if_neg (by decide),if_neg (by decide),if_pos rfl]
theorem desk_post (h:Hs) (ws:List (List UInt8)):deskA h wPost ws=doA h wPost ws:=by unfold deskA;rw [if_neg (by decide),if_neg (by decide),if_neg (by decide),if_neg (by decide),if_neg (by decide),if_neg (by decide),if_neg (by decide),if_neg (by decide),if_neg (by decide),if_neg (by decide),if_neg (by decide),if_neg (by decide),if_pos rfl]
theorem desk_sum (h:Hs) (ws:List (List UInt8)):deskA h dSum ws=sumA h ws:=by unfold deskA;rw [if_neg (by decide),if_neg (by decide),if_neg (by decide),if_neg (by decide),if_neg (by decide),if_neg (by decide),if_neg (by decide),if_neg (by decide),if_neg (by decide),if_neg (by decide),if_neg (by decide),if_neg (by decide),if_neg (by decide),if_pos rfl]
theorem desk_tear (h:Hs) (ws:List (List UInt8)):deskA h dTear ws=tearA h ws:=by unfold deskA;rw [if_neg (by decide),if_neg (by decide),if_neg (by decide),if_neg (by decide),if_neg (by decide),if_neg (by decide),if_neg (by decide),if_neg (by decide),if_neg (by decide),if_neg (by decide),if_neg (by decide),if_neg (by decide),if_neg (by decide),if_neg (by decide),if_pos rfl]
theorem desk_trial (h:Hs) (ws:List (List UInt8)):deskA h dTrial ws=trialA h ws:=by unfold deskA;rw [if_neg (by decide),if_neg (by decide),if_neg (by decide),if_neg (by decide),if_neg (by decide),if_neg (by decide),if_neg (by decide),if_neg (by decide),if_neg (by decide),if_neg (by decide),if_neg (by decide),if_neg (by decide),if_neg (by decide),if_neg (by decide),if_neg (by decide),if_pos rfl]
theorem desk_turn (h:Hs) (ws:List (List UInt8)):deskA h dTurn ws=turnA h ws:=by unfold deskA;rw [if_neg (by decide),if_neg (by decide),if_neg (by decide),if_neg (by decide),if_neg (by decide),if_neg (by decide),if_neg (by decide),if_neg (by decide),if_neg (by decide),if_neg (by decide),if_neg (by decide),if_neg (by decide),if_neg (by decide),if_neg (by decide),if_neg (by decide),if_neg (by decide),if_pos rfl]
theorem desk_void (h:Hs) (ws:List (List UInt8)):deskA h wVoid ws=doA h wVoid ws:=by unfold deskA;rw [if_neg (by decide),if_neg (by decide),if_neg (by decide),if_neg (by decide),if_neg (by decide),if_neg (by decide),if_neg (by decide),if_neg (by decide),if_neg (by decide),if_neg (by decide),if_neg (by decide),if_neg (by decide),if_neg (by decide),if_neg (by decide),if_neg (by decide),if_neg (by decide),if_neg (by decide),if_pos rfl]
theorem found_cons (s:List UInt8) (x:List UInt8 × Nat) (l:List (List UInt8 × Nat)):foundF s (x :: l)=if s=x.1 then some x.2 else foundF s l:=by
 unfold foundF
 by_cases h:s=x.1
 ·rw [if_pos h,List.find?_cons_of_pos (by simpa using h)];rfl
 ·rw [if_neg h,List.find?_cons_of_neg (by simpa using h)]
theorem desk_none (h:Hs) (s:List UInt8) (ws:List (List UInt8)) (hf:foundF s deedTab=none):deskA h s ws=anE h 3:=by
 unfold deedTab at hf
 rw [found_cons] at hf
 by_cases n0:s=dAt
 ·rw [if_pos n0] at hf;cases hf
 rw [if_neg n0] at hf
 rw [found_cons] at hf
 by_cases n1:s=dChange
 ·rw [if_pos n1] at hf;cases hf
 rw [if_neg n1] at hf
 rw [found_cons] at hf
 by_cases n2:s=wClose
 ·rw [if_pos n2] at hf;cases hf
 rw [if_neg n2] at hf
 rw [found_cons] at hf
 by_cases n3:s=dClosed
 ·rw [if_pos n3] at hf;cases hf
 rw [if_neg n3] at hf
 rw [found_cons] at hf
 by_cases n4:s=wCorr
 ·rw [if_pos n4] at hf;cases hf
 rw [if_neg n4] at hf
 rw [found_cons] at hf
 by_cases n5:s=dDay
 ·rw [if_pos n5] at hf;cases hf
 rw [if_neg n5] at hf
 rw [found_cons] at hf
 by_cases n6:s=dEvents
 ·rw [if_pos n6] at hf;cases hf
 rw [if_neg n6] at hf
 rw [found_cons] at hf
 by_cases n7:s=dHelp
 ·rw [if_pos n7] at hf;cases hf
 rw [if_neg n7] at hf
 rw [found_cons] at hf
 by_cases n8:s=dHistory
 ·rw [if_pos n8] at hf;cases hf
 rw [if_neg n8] at hf
 rw [found_cons] at hf
 by_cases n9:s=dMoves
 ·rw [if_pos n9] at hf;cases hf
 rw [if_neg n9] at hf
 rw [found_cons] at hf
 by_cases n10:s=dMonths
 ·rw [if_pos n10] at hf;cases hf
 rw [if_neg n10] at hf
 rw [found_cons] at hf
 by_cases n11:s=dOpen
 ·rw [if_pos n11] at hf;cases hf
 rw [if_neg n11] at hf
 rw [found_cons] at hf
 by_cases n12:s=wPost
 ·rw [if_pos n12] at hf;cases hf
 rw [if_neg n12] at hf
 rw [found_cons] at hf
 by_cases n13:s=dSum
 ·rw [if_pos n13] at hf;cases hf
 rw [if_neg n13] at hf
 rw [found_cons] at hf
 by_cases n14:s=dTear
 ·rw [if_pos n14] at hf;cases hf
 rw [if_neg n14] at hf
 rw [found_cons] at hf
 by_cases n15:s=dTrial
 ·rw [if_pos n15] at hf;cases hf
 rw [if_neg n15] at hf
 rw [found_cons] at hf
 by_cases n16:s=dTurn
 ·rw [if_pos n16] at hf;cases hf
 rw [if_neg n16] at hf
 rw [found_cons] at hf
 by_cases n17:s=wVoid
 ·rw [if_pos n17] at hf;cases hf
 rw [if_neg n17] at hf
 unfold deskA
 rw [if_neg n0,if_neg n1,if_neg n2,if_neg n3,if_neg n4,if_neg n5,if_neg n6,if_neg n7,if_neg n8,if_neg n9,if_neg n10,if_neg n11,if_neg n12,if_neg n13,if_neg n14,if_neg n15,if_neg n16,if_neg n17]
theorem dkdeed_any {w:World} {B cb ph:Nat} {sv cv:Value} {h:Hs} (a:DkAt w B cb ph sv cv h) (ho:DkOk h) (hg:GroundD B w) (s:List UInt8) (f:Nat) (hf:foundF s deedTab=some f) (ws:List (List UInt8)) (v:Value) (hw:WsAt w v ws) (hl:ws.length≤100000) (hj:(joinB ws).length≤100000) :
  Calls Tryz.prog f #[.pointer (some ⟨cb,0,none⟩),v] w (DkP w B cb ph sv cv (deskA h s ws)):=by
 unfold deedTab at hf
 rw [found_cons] at hf
 by_cases n0:s=dAt
 ·rw [if_pos n0] at hf
  cases hf
  subst n0
  rw [desk_at]
  exact dat_any a ho.ok ho.n hg ws v hw hl hj
 rw [if_neg n0] at hf
 rw [found_cons] at hf
 by_cases n1:s=dChange
 ·rw [if_pos n1] at hf
  cases hf
  subst n1
  rw [desk_change]
  exact dchange_any a ho.ok ho.n hg ws v hw hl hj
 rw [if_neg n1] at hf
 rw [found_cons] at hf
 by_cases n2:s=wClose
 ·rw [if_pos n2] at hf
  cases hf
  subst n2
  rw [desk_close]
  exact dclose_any a ho.ok ho.n hg ws v hw hl hj
 rw [if_neg n2] at hf
 rw [found_cons] at hf
 by_cases n3:s=dClosed
 ·rw [if_pos n3] at hf
  cases hf
  subst n3
  rw [desk_closed]
  exact dclosed_any a ho.ok ho.n hg ws v hw hl hj ho.x
 rw [if_neg n3] at hf
 rw [found_cons] at hf
 by_cases n4:s=wCorr
 ·rw [if_pos n4] at hf
  cases hf
  subst n4
  rw [desk_correct]
  exact dcorrect_any a ho.ok ho.n hg ws v hw hl hj
 rw [if_neg n4] at hf
 rw [found_cons] at hf
 by_cases n5:s=dDay
 ·rw [if_pos n5] at hf
  cases hf
  subst n5
  rw [desk_day]
  exact dday_any a ho.ok ho.n hg ws v hw hl hj
 rw [if_neg n5] at hf
 rw [found_cons] at hf
 by_cases n6:s=dEvents
 ·rw [if_pos n6] at hf
  cases hf
  subst n6
  rw [desk_events]
  exact devents_any a ho.ok ho.n hg ws v hw hl hj
 rw [if_neg n6] at hf
 rw [found_cons] at hf
 by_cases n7:s=dHelp
 ·rw [if_pos n7] at hf
  cases hf
  subst n7
  rw [desk_help]
  exact dhelp_any a ho.ok ho.n hg ws v hw hl hj
 rw [if_neg n7] at hf
 rw [found_cons] at hf
 by_cases n8:s=dHistory
 ·rw [if_pos n8] at hf
  cases hf
  subst n8
  rw [desk_history]
  exact dhistory_any a ho.ok ho.n hg ws v hw hl hj
 rw [if_neg n8] at hf
 rw [found_cons] at hf
 by_cases n9:s=dMoves
 ·rw [if_pos n9] at hf
  cases hf
  subst n9
  rw [desk_moves]
  exact dmoves_any a ho.ok ho.n hg ws v hw hl hj
 rw [if_neg n9] at hf
 rw [found_cons] at hf
 by_cases n10:s=dMonths
 ·rw [if_pos n10] at hf
  cases hf
  subst n10
  rw [desk_months]
  exact dmonths_any a ho.ok ho.n hg ws v hw hl hj ho.x
 rw [if_neg n10] at hf
 rw [found_cons] at hf
 by_cases n11:s=dOpen
 ·rw [if_pos n11] at hf
  cases hf
  subst n11
  rw [desk_open]
  exact dopen_any a ho.ok ho.n hg ws v hw hl hj
 rw [if_neg n11] at hf
 rw [found_cons] at hf
 by_cases n12:s=wPost
 ·rw [if_pos n12] at hf
  cases hf
  subst n12
  rw [desk_post]
  exact dpost_any a ho.ok ho.n hg ws v hw hl hj
 rw [if_neg n12] at hf
 rw [found_cons] at hf
 by_cases n13:s=dSum
 ·rw [if_pos n13] at hf
  cases hf
  subst n13
  rw [desk_sum]
  exact dsum_any a ho.ok ho.n hg ws v hw hl hj
 rw [if_neg n13] at hf
 rw [found_cons] at hf
 by_cases n14:s=dTear
 ·rw [if_pos n14] at hf
  cases hf
  subst n14
  rw [desk_tear]
  exact dtear_any a ho.ok ho.n hg ws v hw hl hj ho.md ho.tt
 rw [if_neg n14] at hf
 rw [found_cons] at hf
 by_cases n15:s=dTrial
 ·rw [if_pos n15] at hf
  cases hf
  subst n15
  rw [desk_trial]
  exact dtrial_any a ho.ok ho.n hg ws v hw hl hj ho.x
 rw [if_neg n15] at hf
 rw [found_cons] at hf
 by_cases n16:s=dTurn
 ·rw [if_pos n16] at hf
  cases hf
  subst n16
  rw [desk_turn]
  exact dturn_any a ho.ok ho.n hg ws v hw hl hj
 rw [if_neg n16] at hf
 rw [found_cons] at hf
 by_cases n17:s=wVoid
 ·rw [if_pos n17] at hf
  cases hf
  subst n17
  rw [desk_void]
  exact dvoid_any a ho.ok ho.n hg ws v hw hl hj
 rw [if_neg n17] at hf
 cases hf
theorem found_enter (s:List UInt8) (f:Nat) (hf:foundF s deedTab=some f):∀ args w,(callFunc f args).run Tryz.prog w = .ok (.enter f args) w:=by
 unfold deedTab at hf
 rw [found_cons] at hf
 by_cases n0:s=dAt
 ·rw [if_pos n0] at hf
  cases hf
  exact enters_of Tryz.func15 (by kernel_rfl) rfl
 rw [if_neg n0] at hf
 rw [found_cons] at hf
 by_cases n1:s=dChange
 ·rw [if_pos n1] at hf
  cases hf
  exact enters_of Tryz.func16 (by kernel_rfl) rfl
 rw [if_neg n1] at hf
 rw [found_cons] at hf
 by_cases n2:s=wClose
 ·rw [if_pos n2] at hf
  cases hf
  exact enters_of Tryz.func17 (by kernel_rfl) rfl
 rw [if_neg n2] at hf
 rw [found_cons] at hf
 by_cases n3:s=dClosed
 ·rw [if_pos n3] at hf
  cases hf
  exact enters_of Tryz.func18 (by kernel_rfl) rfl
 rw [if_neg n3] at hf
 rw [found_cons] at hf
 by_cases n4:s=wCorr
 ·rw [if_pos n4] at hf
  cases hf
  exact enters_of Tryz.func19 (by kernel_rfl) rfl
 rw [if_neg n4] at hf
 rw [found_cons] at hf
 by_cases n5:s=dDay
 ·rw [if_pos n5] at hf
  cases hf
  exact enters_of Tryz.func20 (by kernel_rfl) rfl
 rw [if_neg n5] at hf
 rw [found_cons] at hf
 by_cases n6:s=dEvents
 ·rw [if_pos n6] at hf
  cases hf
  exact enters_of Tryz.func21 (by kernel_rfl) rfl
 rw [if_neg n6] at hf
 rw [found_cons] at hf
 by_cases n7:s=dHelp
 ·rw [if_pos n7] at hf
  cases hf
  exact enters_of Tryz.func22 (by kernel_rfl) rfl
 rw [if_neg n7] at hf
 rw [found_cons] at hf
 by_cases n8:s=dHistory
 ·rw [if_pos n8] at hf
  cases hf
  exact enters_of Tryz.func23 (by kernel_rfl) rfl
 rw [if_neg n8] at hf
 rw [found_cons] at hf
 by_cases n9:s=dMoves
 ·rw [if_pos n9] at hf
  cases hf
  exact enters_of Tryz.func24 (by kernel_rfl) rfl
 rw [if_neg n9] at hf
 rw [found_cons] at hf
 by_cases n10:s=dMonths
 ·rw [if_pos n10] at hf
  cases hf
  exact enters_of Tryz.func25 (by kernel_rfl) rfl
 rw [if_neg n10] at hf
 rw [found_cons] at hf
 by_cases n11:s=dOpen
 ·rw [if_pos n11] at hf
  cases hf
  exact enters_of Tryz.func26 (by kernel_rfl) rfl
 rw [if_neg n11] at hf
 rw [found_cons] at hf
 by_cases n12:s=wPost
 ·rw [if_pos n12] at hf
  cases hf
  exact enters_of Tryz.func27 (by kernel_rfl) rfl
 rw [if_neg n12] at hf
 rw [found_cons] at hf
 by_cases n13:s=dSum
 ·rw [if_pos n13] at hf
  cases hf
  exact enters_of Tryz.func28 (by kernel_rfl) rfl
 rw [if_neg n13] at hf
 rw [found_cons] at hf
 by_cases n14:s=dTear
 ·rw [if_pos n14] at hf
  cases hf
  exact enters_of Tryz.func29 (by kernel_rfl) rfl
 rw [if_neg n14] at hf
 rw [found_cons] at hf
 by_cases n15:s=dTrial
 ·rw [if_pos n15] at hf
  cases hf
  exact enters_of Tryz.func30 (by kernel_rfl) rfl
 rw [if_neg n15] at hf
 rw [found_cons] at hf
 by_cases n16:s=dTurn
 ·rw [if_pos n16] at hf
  cases hf
  exact enters_of Tryz.func31 (by kernel_rfl) rfl
 rw [if_neg n16] at hf
 rw [found_cons] at hf
 by_cases n17:s=wVoid
 ·rw [if_pos n17] at hf
  cases hf
  exact enters_of Tryz.func32 (by kernel_rfl) rfl
 rw [if_neg n17] at hf
 cases hf
theorem DkAt.note {w w1:World} {ob:Obj} {B cb ph p2:Nat} {sv cv s2 c2:Value} {h h2:Hs} (a:DkAt w B cb ph sv cv h) (a2:DkAt w1 B cb p2 s2 c2 h2) (t:DTurn (w.alloc ob) w1 cb ph sv cv p2 s2 c2) (v:Value) :
  DkAt (w1.setCell ⟨w.heap.size,0,none⟩ v) B cb p2 s2 c2 h2∧DTurn w (w1.setCell ⟨w.heap.size,0,none⟩ v) cb ph sv cv p2 s2 c2:=by
 have lt:=a.lt
 have nm:∀ k,Mine p2 s2 c2 k→k ≠ w.heap.size:=fun k hk e=>by
  rcases t.fresh k hk with x | x
  ·have:=(a.hs.mine x).2;omega
  ·rw [World.size_alloc] at x;omega
 refine ⟨⟨a2.hs.same fun k hk=>Below.heap_setCell _ _ _ _ (nm k hk),(set_other (by intro e;injection e with e1;omega)).trans a2.cc,set_frz.trans a2.cf,a2.ge,a2.ne⟩,?_⟩
 refine ⟨t.os,t.tape,t.output,?_,fun k hk hc hn=>(Below.heap_setCell _ _ _ _ (by show k ≠ w.heap.size;omega)).trans ((t.block k (by rw [World.size_alloc];omega) hc hn).trans (Below.heap_alloc _ _ _ hk)),fun k hk=>?_⟩
 ·have:=t.size
  rw [World.size_alloc] at this
  simp [World.setCell]
  omega
 ·rcases t.fresh k hk with x | x
  ·exact Or.inl x
  ·rw [World.size_alloc] at x;exact Or.inr (by omega)
theorem dassert_errno (c:Int) (w:World):(Instr.typeAssert (.iface 25 (.int .i64 c)) 20 25 true).run Tryz.prog w = .ok (.tuple #[.int .i64 c,.bool true]) w:=by kernel_rfl
set_option maxRecDepth 20000 in
set_option maxHeartbeats 1000000 in
theorem dcatch_panic (p:Addr) (x:ByteArray) (c:Int) (w:World) (hc:w.cell? p=some (.string x)) (hz:w.frozen? p=false) (hg:GlobN w) (h0 : -9223372036854775808≤c) (h1:c≤9223372036854775807) :
  CallsD Tryz.prog 36 #[.pointer (some p)] (.panicking [{ v:=.iface 25 (.int .i64 c),recovered:=false }]) w fun e u' w'=>
   e = .returned (.tuple #[])∧u' = .panicking [{ v:=.iface 25 (.int .i64 c),recovered:=true }]∧∃ w1,Below w.heap.size w w1∧w'=w1.setCell p (.string (ba (dError ++ Lib.itoa c))):=by
 have hW:=dwrong_any c w hg h0 h1
 have hlt:=World.block_lt_of_cell? _ _ hc
 have hta:=dassert_errno c
 refine callsD_of_wpS Tryz.func36 rfl fun c₀ cs hu=>?_
 apply wpS_seq
 apply wpS_region
 simp [wpOpsS,go_sem,recoverD,hu,Tryz.ntmps36,Exit.thenS]
 refine wpS_of_wp ?_
 rw [show (#[Value.pointer (some p)] ++ ((Array.replicate 15 undef).setIfInBounds 3 (Value.iface 25 (.int .i64 c))).setIfInBounds 0 (Value.iface 25 (.int .i64 c)))=#[.pointer (some p),.iface 25 (.int .i64 c),undef,undef,.iface 25 (.int .i64 c),undef,undef,undef,undef,undef,undef,undef,undef,undef,undef,undef] from rfl]
 clear hg
 go_wp2_with fail
 refine hW.mono ?_
 rintro e w1 ⟨rfl,hb⟩
 have c1:w1.cell? p=some (.string x):=(hb.cell hlt).trans hc
 have z1:w1.frozen? p=false:=(hb.frozen hlt).trans hz
 clear hW hc hz
 go_wp2_with fail
 simp [bodyPostS,results,Tryz.results36]
 exact ⟨w1,hb,rfl⟩
set_option maxRecDepth 20000 in
set_option maxHeartbeats 1000000 in
theorem dcatch_idle (p:Addr) (w:World) :
  CallsD Tryz.prog 36 #[.pointer (some p)] .returning w fun e u' w'=>e = .returned (.tuple #[])∧u' = .returning∧w'=w:=by
 refine callsD_of_wpS Tryz.func36 rfl fun c₀ cs hu=>?_
 apply wpS_seq
 apply wpS_region
 simp [wpOpsS,go_sem,recoverD,hu,Tryz.ntmps36,Exit.thenS]
 refine wpS_of_wp ?_
 rw [show (#[Value.pointer (some p)] ++ ((Array.replicate 15 undef).setIfInBounds 3 Value.nilIface).setIfInBounds 0 Value.nilIface)=#[.pointer (some p),.nilIface,undef,undef,.nilIface,undef,undef,undef,undef,undef,undef,undef,undef,undef,undef,undef] from rfl]
 go_wp2_with fail
 cases c₀
 simp_all [bodyPostS,results,Tryz.results36]
noncomputable def ansA (h:Hs):List (List UInt8)→List UInt8 × Hs
 | []=>(dOk,h)
 | s :: ws=>(if (deskA h s ws).c=0 then (deskA h s ws).told else dError ++ Lib.itoa (deskA h s ws).c,(deskA h s ws).h)
theorem line_ans (h:Hs) (l:List UInt8):lineA h l=ansA h (fieldsL l):=by
 unfold lineA ansA
 split <;> simp_all
def AnsP (w:World) (B cb ph:Nat) (sv cv:Value) (R:List UInt8 × Hs) (e:Ending) (w':World):Prop:=
 e = .returned (.string (ba R.1))∧∃ ph' sv' cv',DkAt w' B cb ph' sv' cv' R.2∧DTurn w w' cb ph sv cv ph' sv' cv'
theorem cell_of_turn {w w':World} {cb ph p2:Nat} {sv cv s2 c2:Value} (t:DTurn w w' cb ph sv cv p2 s2 c2) {k:Nat} (hk:k < w.heap.size) (hc:k ≠ cb) (hn:¬ Mine ph sv cv k) (o:Nat) :
  w'.cell? ⟨k,o,none⟩=w.cell? ⟨k,o,none⟩∧w'.frozen? ⟨k,o,none⟩=w.frozen? ⟨k,o,none⟩:=
 ⟨World.cell?_of_block (a:=⟨k,o,none⟩) (t.block k hk hc hn),World.frozen?_of_block (a:=⟨k,o,none⟩) (t.block k hk hc hn)⟩
theorem deed_c (b:Bk) (cs:List Cl) (word rest:List UInt8):0≤(deedD b cs word rest).c∧(deedD b cs word rest).c≤12:=by
 unfold deedD postD corrD voidD closeD
 repeat' split
 all_goals (simp [ddE])
theorem do_c (h:Hs) (l:List UInt8):0≤(doH h l).c∧(doH h l).c≤12:=by
 unfold doH
 split
 ·exact ⟨(by decide:(0:Int)≤3),(by decide:(3:Int)≤12)⟩
 split
 ·exact ⟨(by decide:(0:Int)≤0),(by decide:(0:Int)≤12)⟩
 ·exact deed_c _ _ _ _
def okC (c:Int):Prop:=0≤c∧c≤12
theorem ok0:okC 0:=⟨by decide,by decide⟩
theorem ok2:okC 2:=⟨by decide,by decide⟩
theorem ok3:okC 3:=⟨by decide,by decide⟩
theorem c_at (h:Hs) (ws:List (List UInt8)):okC (atA h ws).c:=by
 unfold atA
 repeat' split
 all_goals first | exact ok0 | exact ok3 | exact ok2
theorem c_change (h:Hs) (ws:List (List UInt8)):okC (changeA h ws).c:=by
 unfold changeA
 repeat' split
 all_goals first | exact ok0 | exact ok3 | exact ok2
theorem c_closed (h:Hs) (ws:List (List UInt8)):okC (closedA h ws).c:=by
 unfold closedA
 repeat' split
 all_goals first | exact ok0 | exact ok3 | exact ok2
theorem c_day (h:Hs) (ws:List (List UInt8)):okC (dayA h ws).c:=by
 unfold dayA
 repeat' split
 all_goals first | exact ok0 | exact ok3 | exact ok2
theorem c_events (h:Hs) (ws:List (List UInt8)):okC (eventsA h ws).c:=by
 unfold eventsA
 repeat' split
 all_goals first | exact ok0 | exact ok3 | exact ok2
theorem c_help (h:Hs) (ws:List (List UInt8)):okC (helpA h ws).c:=by
 unfold helpA
 repeat' split
 all_goals first | exact ok0 | exact ok3 | exact ok2
theorem c_history (h:Hs) (ws:List (List UInt8)):okC (historyA h ws).c:=by
 unfold historyA
 repeat' split
 all_goals first | exact ok0 | exact ok3 | exact ok2
theorem c_moves (h:Hs) (ws:List (List UInt8)):okC (movesA h ws).c:=by
 unfold movesA
 repeat' split
 all_goals first | exact ok0 | exact ok3 | exact ok2
theorem c_months (h:Hs) (ws:List (List UInt8)):okC (monthsA h ws).c:=by
 unfold monthsA
 repeat' split
 all_goals first | exact ok0 | exact ok3 | exact ok2
theorem c_open (h:Hs) (ws:List (List UInt8)):okC (openA h ws).c:=by
 unfold openA
 repeat' split
 all_goals first | exact ok0 | exact ok3 | exact ok2
theorem c_sum (h:Hs) (ws:List (List UInt8)):okC (sumA h ws).c:=ok0
theorem c_tear (h:Hs) (ws:List (List UInt8)):okC (tearA h ws).c:=by
 unfold tearA
 repeat' split
 all_goals first | exact ok0 | exact ok3 | exact ok2
theorem c_trial (h:Hs) (ws:List (List UInt8)):okC (trialA h ws).c:=by
 unfold trialA
 repeat' split
 all_goals first | exact ok0 | exact ok3 | exact ok2
theorem c_turn (h:Hs) (ws:List (List UInt8)):okC (turnA h ws).c:=by
 unfold turnA
 repeat' split
 all_goals first | exact ok0 | exact ok3 | exact ok2
theorem desk_c0 (h:Hs) (s:List UInt8) (ws:List (List UInt8)):okC (deskA h s ws).c:=by
 have hd:okC (doA h s ws).c:=do_c h (s ++ 32 :: joinB ws)
 unfold deskA
 by_cases n0:s=dAt
 ·rw [if_pos n0];exact c_at h ws
 rw [if_neg n0]
 by_cases n1:s=dChange
 ·rw [if_pos n1];exact c_change h ws
 rw [if_neg n1]
 by_cases n2:s=wClose
 ·rw [if_pos n2];exact hd
 rw [if_neg n2]
 by_cases n3:s=dClosed
 ·rw [if_pos n3];exact c_closed h ws
 rw [if_neg n3]
 by_cases n4:s=wCorr
 ·rw [if_pos n4];exact hd
 rw [if_neg n4]
 by_cases n5:s=dDay
 ·rw [if_pos n5];exact c_day h ws
 rw [if_neg n5]
 by_cases n6:s=dEvents
 ·rw [if_pos n6];exact c_events h ws
 rw [if_neg n6]
 by_cases n7:s=dHelp
 ·rw [if_pos n7];exact c_help h ws
 rw [if_neg n7]
 by_cases n8:s=dHistory
 ·rw [if_pos n8];exact c_history h ws
 rw [if_neg n8]
 by_cases n9:s=dMoves
 ·rw [if_pos n9];exact c_moves h ws
 rw [if_neg n9]
 by_cases n10:s=dMonths
 ·rw [if_pos n10];exact c_months h ws
 rw [if_neg n10]
 by_cases n11:s=dOpen
 ·rw [if_pos n11];exact c_open h ws
 rw [if_neg n11]
 by_cases n12:s=wPost
 ·rw [if_pos n12];exact hd
 rw [if_neg n12]
 by_cases n13:s=dSum
 ·rw [if_pos n13];exact c_sum h ws
 rw [if_neg n13]
 by_cases n14:s=dTear
 ·rw [if_pos n14];exact c_tear h ws
 rw [if_neg n14]
 by_cases n15:s=dTrial
 ·rw [if_pos n15];exact c_trial h ws
 rw [if_neg n15]
 by_cases n16:s=dTurn
 ·rw [if_pos n16];exact c_turn h ws
 rw [if_neg n16]
 by_cases n17:s=wVoid
 ·rw [if_pos n17];exact hd
 rw [if_neg n17]
 exact ok3
theorem desk_c (h:Hs) (s:List UInt8) (ws:List (List UInt8)):0≤(deskA h s ws).c∧(deskA h s ws).c≤12:=desk_c0 h s ws
set_option maxRecDepth 20000 in
set_option maxHeartbeats 4000000 in
theorem danswer_nil {w:World} {B cb ph:Nat} {sv cv:Value} {h:Hs} (a:DkAt w B cb ph sv cv h) (mv:Value) (ad:Option Addr) (cap:Nat) :
  Calls Tryz.prog 10 #[mv,.slice ad 0 cap] w (AnsP w B cb ph sv cv (ansA h [])):=by
 have hb:Below w.heap.size w (w.alloc (.cells #[.string ⟨#[111,107]⟩] 9)):=(Below.refl w.heap.size w).alloc (Nat.le_refl _) _
 have HP:Hid (AnsP w B cb ph sv cv (ansA h []) (.returned (.string ⟨#[111,107]⟩)) (w.alloc (.cells #[.string ⟨#[111,107]⟩] 9))):=⟨rfl,ph,sv,cv,a.below hb,DTurn.of_below hb⟩
 clear a hb
 go_enter_defers Tryz.func10,Tryz.ntmps10
 go_wp2
 simp [bodyPostD,Leaves,results,Tryz.results10,go_sem]
 exact HP.out
set_option maxRecDepth 20000 in
set_option maxHeartbeats 8000000 in
theorem danswer_some {w:World} {B cb ph mb:Nat} {sv cv:Value} {h:Hs} (a:DkAt w B cb ph sv cv h) (ho:DkOk h) (hg:GroundD B w) (hd:DeedsAt w cb mb) (s:List UInt8) (r:List (List UInt8)) (v:Value) (hw:WsAt w v (s :: r)) (hl:(s :: r).length≤100000) (hj:(joinB (s :: r)).length≤100000) :
  Calls Tryz.prog 10 #[.map (some mb),v] w (AnsP w B cb ph sv cv (ansA h (s :: r))):=by
 obtain ⟨ad,cap,rfl,hcap,hx | ⟨bk,o,rfl,lt,c⟩⟩:=hw
 ·cases hx
 obtain ⟨W0,hW0⟩:∃ W,W=w.alloc (.cells #[.string ⟨#[]⟩] 9):=⟨_,rfl⟩
 have hb0:Below w.heap.size w W0:=by rw [hW0];exact (Below.refl _ _).alloc (Nat.le_refl _) _
 have hsz:W0.heap.size=w.heap.size + 1:=by rw [hW0,World.size_alloc]
 have c0:W0.cell? ⟨bk,o,none⟩=some (.string (ba s)):=(hb0.cell (p:=⟨bk,o,none⟩) lt).trans (c 0 s rfl)
 have hd0:W0.heap[mb]?=some (.map (entsFrom cb 0 deedTab).toArray deedTab.length):=(hb0.block mb (Array.getElem?_eq_some_iff.1 hd).1).trans hd
 have hL:=look_deed cb deedTab _ s hd0
 have p0:W0.cell? ⟨w.heap.size,0,none⟩=some (.string ⟨#[]⟩):=by rw [hW0];simp
 have z0:W0.frozen? ⟨w.heap.size,0,none⟩=false:=by rw [hW0];simp
 have hmf:∀ (fn:Fn) (first cap:Array Value) (w:World),(Instr.makeFunc fn first cap).run Tryz.prog w = .ok (.func fn first cap) w:=fun _ _ _ _=>rfl
 have hl2:r.length≤100000:=by rw [List.length_cons] at hl;omega
 have hj2:(joinB r).length≤100000:=by
  cases r with
  | nil=>exact Nat.zero_le _
  | cons y r=>rw [joinB,List.length_append,List.length_cons] at hj;omega
 have hw1:cap=1→WsAt W0 (.slice (some ⟨bk,o,none⟩) r.length 0) r:=fun hc1=>by
  have:r.length=0:=by rw [List.length_cons] at hcap;omega
  exact ⟨some ⟨bk,o,none⟩,0,rfl,by omega,Or.inl (List.length_eq_zero_iff.1 this)⟩
 have hw0:WsAt W0 (.slice (some ⟨bk,o + 1,none⟩) r.length (cap - 1)) r:=by
  refine ⟨some ⟨bk,o + 1,none⟩,cap - 1,rfl,by rw [List.length_cons] at hcap;omega,Or.inr ⟨bk,o + 1,rfl,Nat.lt_of_lt_of_le lt hb0.size,fun j x hj=>?_⟩⟩
  have h1:=c (j + 1) x hj
  rw [show o + 1 + j=o + (j + 1) by omega]
  exact (hb0.cell (p:=⟨bk,o + (j + 1),none⟩) lt).trans h1
 have a0:=a.below hb0
 have hg0:=hg.below hb0
 have hne:w.heap.size ≠ cb:=by have:=a.lt;omega
 have hnm:¬ Mine ph sv cv w.heap.size:=fun hm=>by have:=(a.hs.mine hm).2;omega
 have HNOTE:Hid (∀ (w1 w2:World) (p2:Nat) (s2 c2:Value) (h2:Hs) (t:List UInt8),DkAt w1 B cb p2 s2 c2 h2→DTurn W0 w1 cb ph sv cv p2 s2 c2→Below w1.heap.size w1 w2→ansA h (s :: r)=(t,h2)→AnsP w B cb ph sv cv (ansA h (s :: r)) (.returned (.string (ba t))) (w2.setCell ⟨w.heap.size,0,none⟩ (.string (ba t)))):=by
  intro w1 w2 p2 s2 c2 h2 t d1 t1 hb2 e
  rw [e]
  have t2:=t1.trans (DTurn.of_below hb2)
  rw [hW0] at t2
  obtain ⟨x1,x2⟩:=a.note (d1.below hb2) t2 (.string (ba t))
  exact ⟨rfl,p2,s2,c2,x1,x2⟩
 have HA:=hidE a
 have HW0:=hidE hW0
 have HA0:=hidE a0
 have HG0:=hidE hg0
 have HSZ:=hidE hsz
 rcases hf:foundF s deedTab with _ | f
 ·rw [hf] at hL
  simp only at hL
  have HE:Hid (ansA h (s :: r)=(dError ++ Lib.itoa 3,h)):=by
   show _=_
   show ((if (deskA h s r).c=0 then (deskA h s r).told else dError ++ Lib.itoa (deskA h s r).c),(deskA h s r).h)=_
   rw [desk_none h s r hf]
   rfl
  have hCP:=dcatch_panic ⟨w.heap.size,0,none⟩ ⟨#[]⟩ 3 W0 p0 z0 hg0.glob.h.ev.num (by decide) (by decide)
  clear a a0 hg hg0 hd hd0 ho hW0 hw0 hw1 hf c hb0 hl hj hl2 hj2 hsz
  have hr0:(((r.length:Int) + 1) == 0)=false:=by
   rw [beq_eq_false_iff_ne]
   omega
  go_enter_defers Tryz.func10,Tryz.ntmps10
  go_upto_region 3 with fail
  rw [← HW0.out]
  go_wp2_with fail
  refine leaves_cons (f:=36) (args:=#[.pointer (some ⟨w.heap.size,0,none⟩)]) (by simp) (by simp [go_sem]) ?_
  refine hCP.mono ?_
  rintro e u' w'' ⟨rfl,rfl,w1,hb1,rfl⟩
  have hcr:(w1.setCell ⟨w.heap.size,0,none⟩ (.string (ba (dError ++ Lib.itoa 3)))).cell? ⟨w.heap.size,0,none⟩=some (.string (ba (dError ++ Lib.itoa 3))):=set_same ((hb1.cell (p:=⟨w.heap.size,0,none⟩) (World.block_lt_of_cell? _ _ p0)).trans p0)
  have HF:=hidE (HNOTE.out W0 w1 ph sv cv h _ HA0.out (DTurn.of_below (Below.refl _ _)) hb1 HE.out)
  clear hCP hmf hL c0 p0 z0 HNOTE HE
  obtain ⟨tx,htx⟩:∃ t,t=ba (dError ++ Lib.itoa 3):=⟨_,rfl⟩
  rw [← htx] at hcr HF ⊢
  clear htx
  obtain ⟨W2,hW2⟩:∃ W,W=w1.setCell ⟨w.heap.size,0,none⟩ (.string tx):=⟨_,rfl⟩
  rw [← hW2] at hcr HF ⊢
  clear hW2
  simp [Leaves,settle,results,Tryz.results10,go_sem,hcr]
  exact HF.out
 ·rw [hf] at hL
  unfold deedV at hL
  simp only at hL
  have hent:=found_enter s f hf
  have hD:∀ v',WsAt W0 v' r→Calls Tryz.prog f #[.pointer (some ⟨cb,0,none⟩),v'] W0 (DkP W0 B cb ph sv cv (deskA h s r)):=fun v' hv'=>dkdeed_any a0 ho hg0 s f hf r v' hv' hl2 hj2
  have HW1:=hidE hw1
  have HWW:=hidE hw0
  have HE:Hid (ansA h (s :: r)=((if (deskA h s r).c=0 then (deskA h s r).told else dError ++ Lib.itoa (deskA h s r).c),(deskA h s r).h)):=rfl
  have hcb:=desk_c h s r
  obtain ⟨R,hR⟩:∃ R,R=deskA h s r:=⟨_,rfl⟩
  rw [← hR] at hD HE hcb
  have hr0:(((r.length:Int) + 1) == 0)=false:=by
   rw [beq_eq_false_iff_ne]
   omega
  have hcp:r.length + 1≤cap:=hcap
  have HNE:=hidE hne
  have HNM:=hidE hnm
  have P0:=hidE p0
  have Z0:=hidE z0
  clear a a0 hg hg0 hd hd0 ho hW0 hw0 hw1 hf c hb0 hl hj hl2 hj2 hsz hR hne hnm p0 z0 hcap
  go_enter_defers Tryz.func10,Tryz.ntmps10
  go_upto_region 3 with fail
  rw [← HW0.out]
  go_wp2_with fail
  ·refine (hD _ (HW1.out (by assumption))).mono ?_
   rintro e w1 ⟨he,p2,s2,c2,d1,t1⟩
   have hk0:w.heap.size < W0.heap.size:=by rw [HSZ.out];omega
   obtain ⟨q1,q2⟩:=cell_of_turn t1 hk0 HNE.out HNM.out 0
   have p1:w1.cell? ⟨w.heap.size,0,none⟩=some (.string ⟨#[]⟩):=q1.trans P0.out
   have z1:w1.frozen? ⟨w.heap.size,0,none⟩=false:=q2.trans Z0.out
   have HG1:Hid (GroundD B w1):=HG0.out.turn HA0.out t1
   have D1:=hidE d1
   have T1:=hidE t1
   have HK:=hidE hk0
   clear hD d1 t1 q1 q2 hL c0 hk0
   by_cases hc:R.c=0
   ·obtain ⟨tx,htx⟩:∃ t,t=R.told:=⟨_,rfl⟩
    have HF:=hidE (HNOTE.out w1 w1 p2 s2 c2 R.h tx D1.out T1.out (Below.refl _ _) (by rw [HE.out,if_pos hc,htx]))
    have he2:e = .returned (.string (ba tx)):=by rw [he];unfold endA;rw [if_pos hc,htx]
    subst he2
    obtain ⟨tb,htb⟩:∃ t,t=ba tx:=⟨_,rfl⟩
    rw [← htb] at HF ⊢
    have hcr:(w1.setCell ⟨w.heap.size,0,none⟩ (.string tb)).cell? ⟨w.heap.size,0,none⟩=some (.string tb):=set_same p1
    have hCI:=dcatch_idle ⟨w.heap.size,0,none⟩ (w1.setCell ⟨w.heap.size,0,none⟩ (.string tb))
    have HCR:=hidE hcr
    clear he htx htb hc HNOTE HE hcr
    go_wp2_with fail
    refine leaves_cons (f:=36) (args:=#[.pointer (some ⟨w.heap.size,0,none⟩)]) (by simp) (by simp [go_sem]) ?_
    refine hCI.mono ?_
    rintro e u' w'' ⟨rfl,rfl,rfl⟩
    have hcr:=HCR.out
    clear hCI HCR p1 z1
    obtain ⟨W2,hW2⟩:∃ W,W=w1.setCell ⟨w.heap.size,0,none⟩ (.string tb):=⟨_,rfl⟩
    rw [← hW2] at hcr HF ⊢
    clear hW2
    simp [Leaves,settle,results,Tryz.results10,go_sem,hcr]
    exact HF.out
   ·have he2:e = .panicked [{ v:=.iface 25 (.int .i64 R.c),recovered:=false }]:=by rw [he];unfold endA;rw [if_neg hc]
    subst he2
    have hCP:=dcatch_panic ⟨w.heap.size,0,none⟩ ⟨#[]⟩ R.c w1 p1 z1 HG1.out.glob.h.ev.num (by omega) (by omega)
    have HC:=hidE hc
    clear he hc hcb
    go_wp2_with fail
    refine leaves_cons (f:=36) (args:=#[.pointer (some ⟨w.heap.size,0,none⟩)]) (by simp) (by simp [go_sem]) ?_
    refine hCP.mono ?_
    rintro e u' w'' ⟨rfl,rfl,w2,hb2,rfl⟩
    have hcr:(w2.setCell ⟨w.heap.size,0,none⟩ (.string (ba (dError ++ Lib.itoa R.c)))).cell? ⟨w.heap.size,0,none⟩=some (.string (ba (dError ++ Lib.itoa R.c))):=set_same ((hb2.cell (p:=⟨w.heap.size,0,none⟩) (World.block_lt_of_cell? _ _ p1)).trans p1)
    have HF:=hidE (HNOTE.out w1 w2 p2 s2 c2 R.h _ D1.out T1.out hb2 (by rw [HE.out,if_neg HC.out]))
    clear hCP hmf p1 z1 HNOTE HE
    obtain ⟨tx,htx⟩:∃ t,t=ba (dError ++ Lib.itoa R.c):=⟨_,rfl⟩
    rw [← htx] at hcr HF ⊢
    clear htx
    obtain ⟨W2,hW2⟩:∃ W,W=w2.setCell ⟨w.heap.size,0,none⟩ (.string tx):=⟨_,rfl⟩
    rw [← hW2] at hcr HF ⊢
    clear hW2
    simp [Leaves,settle,results,Tryz.results10,go_sem,hcr]
    exact HF.out
  ·refine (hD _ HWW.out).mono ?_
   rintro e w1 ⟨he,p2,s2,c2,d1,t1⟩
   have hk0:w.heap.size < W0.heap.size:=by rw [HSZ.out];omega
   obtain ⟨q1,q2⟩:=cell_of_turn t1 hk0 HNE.out HNM.out 0
   have p1:w1.cell? ⟨w.heap.size,0,none⟩=some (.string ⟨#[]⟩):=q1.trans P0.out
   have z1:w1.frozen? ⟨w.heap.size,0,none⟩=false:=q2.trans Z0.out
   have HG1:Hid (GroundD B w1):=HG0.out.turn HA0.out t1
   have D1:=hidE d1
   have T1:=hidE t1
   have HK:=hidE hk0
   clear hD d1 t1 q1 q2 hL c0 hk0
   by_cases hc:R.c=0
   ·obtain ⟨tx,htx⟩:∃ t,t=R.told:=⟨_,rfl⟩
    have HF:=hidE (HNOTE.out w1 w1 p2 s2 c2 R.h tx D1.out T1.out (Below.refl _ _) (by rw [HE.out,if_pos hc,htx]))
    have he2:e = .returned (.string (ba tx)):=by rw [he];unfold endA;rw [if_pos hc,htx]
    subst he2
    obtain ⟨tb,htb⟩:∃ t,t=ba tx:=⟨_,rfl⟩
    rw [← htb] at HF ⊢
    have hcr:(w1.setCell ⟨w.heap.size,0,none⟩ (.string tb)).cell? ⟨w.heap.size,0,none⟩=some (.string tb):=set_same p1
    have hCI:=dcatch_idle ⟨w.heap.size,0,none⟩ (w1.setCell ⟨w.heap.size,0,none⟩ (.string tb))
    have HCR:=hidE hcr
    clear he htx htb hc HNOTE HE hcr
    go_wp2_with fail
    refine leaves_cons (f:=36) (args:=#[.pointer (some ⟨w.heap.size,0,none⟩)]) (by simp) (by simp [go_sem]) ?_
    refine hCI.mono ?_
    rintro e u' w'' ⟨rfl,rfl,rfl⟩
    have hcr:=HCR.out
    clear hCI HCR p1 z1
    obtain ⟨W2,hW2⟩:∃ W,W=w1.setCell ⟨w.heap.size,0,none⟩ (.string tb):=⟨_,rfl⟩
    rw [← hW2] at hcr HF ⊢
    clear hW2
    simp [Leaves,settle,results,Tryz.results10,go_sem,hcr]
    exact HF.out
   ·have he2:e = .panicked [{ v:=.iface 25 (.int .i64 R.c),recovered:=false }]:=by rw [he];unfold endA;rw [if_neg hc]
    subst he2
    have hCP:=dcatch_panic ⟨w.heap.size,0,none⟩ ⟨#[]⟩ R.c w1 p1 z1 HG1.out.glob.h.ev.num (by omega) (by omega)
    have HC:=hidE hc
    clear he hc hcb
    go_wp2_with fail
    refine leaves_cons (f:=36) (args:=#[.pointer (some ⟨w.heap.size,0,none⟩)]) (by simp) (by simp [go_sem]) ?_
    refine hCP.mono ?_
    rintro e u' w'' ⟨rfl,rfl,w2,hb2,rfl⟩
    have hcr:(w2.setCell ⟨w.heap.size,0,none⟩ (.string (ba (dError ++ Lib.itoa R.c)))).cell? ⟨w.heap.size,0,none⟩=some (.string (ba (dError ++ Lib.itoa R.c))):=set_same ((hb2.cell (p:=⟨w.heap.size,0,none⟩) (World.block_lt_of_cell? _ _ p1)).trans p1)
    have HF:=hidE (HNOTE.out w1 w2 p2 s2 c2 R.h _ D1.out T1.out hb2 (by rw [HE.out,if_neg HC.out]))
    clear hCP hmf p1 z1 HNOTE HE
    obtain ⟨tx,htx⟩:∃ t,t=ba (dError ++ Lib.itoa R.c):=⟨_,rfl⟩
    rw [← htx] at hcr HF ⊢
    clear htx
    obtain ⟨W2,hW2⟩:∃ W,W=w2.setCell ⟨w.heap.size,0,none⟩ (.string tx):=⟨_,rfl⟩
    rw [← hW2] at hcr HF ⊢
    clear hW2
    simp [Leaves,settle,results,Tryz.results10,go_sem,hcr]
    exact HF.out
end Go.Proofs.YtcmclihhlblfpaaGreatDoor
