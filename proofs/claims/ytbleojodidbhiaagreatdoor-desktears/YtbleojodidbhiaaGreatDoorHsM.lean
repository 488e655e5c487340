/-  -/
import Derived.Test.YtbleojodidbhiaaGreatDoorBnEv
import Derived.Test.YtbleojodidbhiaaGreatDoorBnT
import Derived.Test.YtbleojodidbhiaaGreatDoorBnV
import Derived.Test.YtbleojodidbhiaaGreatDoorBnS
namespace Go.Proofs.YtbleojodidbhiaaGreatDoor
open Go.RowKit
structure Hs where
 bk:Bk
 cs:List Cl
 ls:List (List UInt8)
def hs0:Hs:=⟨bk0,[],[]⟩
def lateT (cs:List Cl) (e:Ev):List UInt8:=if cov cs (dK e.day)=true then tLate else []
noncomputable def clF (b:Bk) (cs:List Cl) (m:Int):Fig:=unp (untl (srt (asOf b b.n)) m) cs
structure Dd where
 told:List UInt8
 c:Int
 bk:Bk
 cs:List Cl
def ddE (b:Bk) (cs:List Cl) (c:Int):Dd:=⟨[],c,b,cs⟩
noncomputable def postD (b:Bk) (cs:List Cl) (rest:List UInt8):Dd:=match evOf rest with
 | none=>ddE b cs 3
 | some e=>if b.vs.length < 120 then ⟨tPosted ++ Lib.itoa (b.g + 1) ++ lateT cs e,0,postB b e,cs⟩ else ddE b cs 12
noncomputable def corrD (b:Bk) (cs:List Cl) (rest:List UInt8):Dd:=match numO (cutL rest).1 with
 | none=>ddE b cs 3
 | some id=>match evOf (cutL rest).2 with
  | none=>ddE b cs 3
  | some e=>if kIx b.vs id = -1 then ddE b cs 7 else if b.vs.length < 120 then ⟨tCorrected ++ lateT cs e,0,corrB b (kIx b.vs id).toNat id e,cs⟩ else ddE b cs 12
def voidD (b:Bk) (cs:List Cl) (rest:List UInt8):Dd:=match numO rest with
 | none=>ddE b cs 3
 | some id=>if kIx b.vs id = -1 then ddE b cs 7 else ⟨tVoided,0,endB b (kIx b.vs id).toNat,cs⟩
noncomputable def closeD (b:Bk) (cs:List Cl) (rest:List UInt8):Dd:=match dparsed (rest ++ [45,48,49]) with
 | none=>ddE b cs 3
 | some n=>if cov cs (dK n)=true then ddE b cs 10 else if 60≤cs.length then ddE b cs 12 else ⟨tClosed ++ Lib.itoa (postL (clF b cs (dK n))).length,0,b,cs ++ [⟨dK n,b.n,clF b cs (dK n)⟩]⟩
noncomputable def deedD (b:Bk) (cs:List Cl) (word rest:List UInt8):Dd:=
 if word=wPost then postD b cs rest else if word=wCorr then corrD b cs rest else if word=wVoid then voidD b cs rest else if word=wClose then closeD b cs rest else ddE b cs 3
structure Rs where
 told:List UInt8
 c:Int
 h:Hs
noncomputable def doH (h:Hs) (l:List UInt8):Rs:=
 if 200 < l.length then ⟨[],3,h⟩ else
 if (deedD h.bk h.cs (cutL l).1 (cutL l).2).c=0 then ⟨(deedD h.bk h.cs (cutL l).1 (cutL l).2).told,0,(deedD h.bk h.cs (cutL l).1 (cutL l).2).bk,(deedD h.bk h.cs (cutL l).1 (cutL l).2).cs,h.ls ++ [l]⟩
 else ⟨[],(deedD h.bk h.cs (cutL l).1 (cutL l).2).c,h⟩
theorem deed_or (b:Bk) (cs:List Cl) (word rest:List UInt8):(deedD b cs word rest).c=0∨((deedD b cs word rest).bk=b∧(deedD b cs word rest).cs=cs):=by
 unfold deedD postD corrD voidD closeD
 repeat' split
 all_goals first
  | exact Or.inr ⟨rfl,rfl⟩
  | exact Or.inl rfl
theorem deed_err {b:Bk} {cs:List Cl} {word rest:List UInt8} (h:(deedD b cs word rest).c ≠ 0):(deedD b cs word rest).bk=b∧(deedD b cs word rest).cs=cs:=(deed_or b cs word rest).resolve_left h
theorem do_err {h:Hs} {l:List UInt8} (hc:(doH h l).c ≠ 0):(doH h l).h=h∧(doH h l).told=[]:=by
 unfold doH at hc ⊢
 split
 ·exact ⟨rfl,rfl⟩
 split
 ·rename_i h1 h2
  rw [if_neg h1,if_pos h2] at hc
  exact absurd rfl hc
 ·exact ⟨rfl,rfl⟩
theorem do_ok {h:Hs} {l:List UInt8} (hc:(doH h l).c=0):(doH h l).h.ls=h.ls ++ [l]∧l.length≤200:=by
 unfold doH at hc ⊢
 split
 ·rename_i h1
  rw [if_pos h1] at hc
  exact absurd (show (3:Int)=0 from hc) (by decide)
 split
 ·exact ⟨rfl,by omega⟩
 ·rename_i h1 h2
  rw [if_neg h1,if_neg h2] at hc
  exact absurd hc h2
structure HsOk (h:Hs):Prop where
 inv:Inv h.bk
 n:h.bk.n≤h.ls.length
 cs:h.cs.length≤60
 ls:∀ t ∈ h.ls,t.length≤200
theorem ok_zero:HsOk hs0:=⟨inv_zero,by simp [hs0,bk0],by simp [hs0],by simp [hs0]⟩
theorem ev0_w:EvW ev0:=by constructor <;> decide
theorem deed_ok {b:Bk} {cs:List Cl} {word rest:List UInt8} (hi:Inv b) (hn:b.n≤1000000) (hc:cs.length≤60) (hr:rest.length≤1000) (h0:(deedD b cs word rest).c=0) :
  Inv (deedD b cs word rest).bk∧(deedD b cs word rest).bk.n≤b.n + 1∧(deedD b cs word rest).cs.length≤60:=by
 have hx:(cutL rest).2.length≤rest.length:=by
  unfold cutL
  simp only [List.length_drop]
  have:=(List.dropWhile_sublist (p:=fun x:UInt8=>x != 32) (l:=rest)).length_le
  omega
 unfold deedD at h0 ⊢
 split
 ·rename_i hw
  rw [if_pos hw] at h0
  unfold postD at h0 ⊢
  rcases he:evOf rest with _ | e
  ·rw [he] at h0;exact absurd h0 (by simp [ddE])
  ·rw [he] at h0
   simp only at h0 ⊢
   by_cases hl:b.vs.length < 120
   ·rw [if_pos hl]
    have hR:=evOf_some he
    have hs:StepA b ⟨0,0,e⟩ (postB b e):=Or.inl ⟨rfl,hR.1,hl,rfl⟩
    exact ⟨inv_step hi (evW_of hR hr) hn hs,by rw [step_n hs];exact Int.le_refl _,hc⟩
   ·rw [if_neg hl] at h0;exact absurd h0 (by simp [ddE])
 split
 ·rename_i hw0 hw
  rw [if_neg hw0,if_pos hw] at h0
  unfold corrD at h0 ⊢
  rcases hm:numO (cutL rest).1 with _ | id
  ·rw [hm] at h0;exact absurd h0 (by simp [ddE])
  rw [hm] at h0
  rcases he:evOf (cutL rest).2 with _ | e
  ·rw [he] at h0;exact absurd h0 (by simp [ddE])
  rw [he] at h0
  simp only at h0 ⊢
  by_cases hk:kIx b.vs id = -1
  ·rw [if_pos hk] at h0;exact absurd h0 (by simp [ddE])
  rw [if_neg hk] at h0 ⊢
  by_cases hl:b.vs.length < 120
  ·rw [if_pos hl]
   have hR:=evOf_some he
   rcases kIx_form b.vs id with h1 | ⟨k,hkl,h1⟩
   ·exact absurd h1 hk
   have hs:StepA b ⟨1,id,e⟩ (corrB b (kIx b.vs id).toNat id e):=Or.inr (Or.inl ⟨rfl,hR.1,hl,k,hkl,h1,by rw [h1];rfl⟩)
   exact ⟨inv_step hi (evW_of hR (by omega)) hn hs,by rw [step_n hs];exact Int.le_refl _,hc⟩
  ·rw [if_neg hl] at h0;exact absurd h0 (by simp [ddE])
 split
 ·rename_i hw0 hw1 hw
  rw [if_neg hw0,if_neg hw1,if_pos hw] at h0
  unfold voidD at h0 ⊢
  rcases hm:numO rest with _ | id
  ·rw [hm] at h0;exact absurd h0 (by simp [ddE])
  rw [hm] at h0
  simp only at h0 ⊢
  by_cases hk:kIx b.vs id = -1
  ·rw [if_pos hk] at h0;exact absurd h0 (by simp [ddE])
  rw [if_neg hk] at h0 ⊢
  rcases kIx_form b.vs id with h1 | ⟨k,hkl,h1⟩
  ·exact absurd h1 hk
  have hs:StepA b ⟨2,id,ev0⟩ (endB b (kIx b.vs id).toNat):=Or.inr (Or.inr ⟨rfl,k,hkl,h1,by rw [h1];rfl⟩)
  exact ⟨inv_step hi (x:=⟨2,id,ev0⟩) (show EvW ev0 from ev0_w) hn hs,by rw [step_n hs];exact Int.le_refl _,hc⟩
 split
 ·rename_i hw0 hw1 hw2 hw
  rw [if_neg hw0,if_neg hw1,if_neg hw2,if_pos hw] at h0
  unfold closeD at h0 ⊢
  rcases hm:dparsed (rest ++ [45,48,49]) with _ | n
  ·rw [hm] at h0;exact absurd h0 (by simp [ddE])
  rw [hm] at h0
  simp only at h0 ⊢
  by_cases hk:cov cs (dK n)=true
  ·rw [if_pos hk] at h0;exact absurd h0 (by simp [ddE])
  rw [if_neg hk] at h0 ⊢
  by_cases hl:60≤cs.length
  ·rw [if_pos hl] at h0;exact absurd h0 (by simp [ddE])
  ·rw [if_neg hl]
   refine ⟨hi,by show b.n≤b.n + 1;omega,?_⟩
   show (cs ++ [_]).length≤60
   rw [List.length_append,List.length_singleton];omega
 ·rename_i hw0 hw1 hw2 hw3
  rw [if_neg hw0,if_neg hw1,if_neg hw2,if_neg hw3] at h0
  exact absurd h0 (by simp [ddE])
theorem do_keeps {h:Hs} (l:List UInt8) (ho:HsOk h) (hn:h.ls.length≤100000):HsOk (doH h l).h:=by
 by_cases hc:(doH h l).c=0
 ·obtain ⟨h1,h2⟩:=do_ok hc
  have hcut:=(cut_len l).2
  have e:¬ 200 < l.length:=by omega
  unfold doH at hc h1 ⊢
  rw [if_neg e] at hc h1 ⊢
  by_cases h0:(deedD h.bk h.cs (cutL l).1 (cutL l).2).c=0
  ·rw [if_pos h0]
   have hbn:=ho.n
   obtain ⟨a1,a2,a3⟩:=deed_ok ho.inv (by omega) ho.cs (by omega) h0
   refine ⟨a1,?_,a3,?_⟩
   ·simp only [List.length_append,List.length_singleton];omega
   ·intro t ht
    rcases List.mem_append.1 ht with ht | ht
    ·exact ho.ls t ht
    ·rw [List.mem_singleton.1 ht];exact h2
  ·rw [if_neg h0] at hc;exact absurd hc h0
 ·rw [(do_err hc).1];exact ho
noncomputable def runH (ls:List (List UInt8)):Hs:=ls.foldl (fun h t=>(doH h t).h) hs0
theorem run_snoc (ls:List (List UInt8)) (t:List UInt8):runH (ls ++ [t])=(doH (runH ls) t).h:=by unfold runH;rw [List.foldl_append];rfl
def GoodL (ls:List (List UInt8)):Prop:=∀ k (hk:k < ls.length),(doH (runH (ls.take k)) ls[k]).c=0
theorem GoodL.take {ls:List (List UInt8)} (h:GoodL ls) (m:Nat):GoodL (ls.take m):=fun k hk=>by
 have hk':k < ls.length:=by rw [List.length_take] at hk;omega
 have hkm:k≤m:=by rw [List.length_take] at hk;omega
 have e:(ls.take m).take k=ls.take k:=by rw [List.take_take,Nat.min_eq_left hkm]
 rw [e,List.getElem_take]
 exact h k hk'
theorem good_nil:GoodL []:=fun _ hk=>absurd hk (Nat.not_lt_zero _)
theorem good_snoc {ls:List (List UInt8)} (h:GoodL ls) {t:List UInt8} (hc:(doH (runH ls) t).c=0):GoodL (ls ++ [t]):=fun k hk=>by
 by_cases hl:k < ls.length
 ·rw [List.take_append_of_le_length (by omega),List.getElem_append_left hl]
  exact h k hl
 ·obtain rfl:k=ls.length:=by rw [List.length_append,List.length_singleton] at hk;omega
  rw [List.take_left,List.getElem_append_right (Nat.le_refl _)]
  simpa using hc
theorem run_ls:∀ (n:Nat) (ls:List (List UInt8)),ls.length=n→GoodL ls→(runH ls).ls=ls
 | 0,ls,hn,_=>by rw [List.length_eq_zero_iff.1 hn];rfl
 | n + 1,ls,hn,h=>by
  obtain ⟨a,t,rfl⟩:∃ a t,ls=a ++ [t]:=by
   rcases List.eq_nil_or_concat ls with rfl | ⟨a,t,rfl⟩
   ·cases hn
   ·exact ⟨a,t,by rw [List.concat_eq_append]⟩
  have ha:a.length=n:=by simpa using hn
  have hg:=h.take a.length
  rw [List.take_left] at hg
  have hc:=h a.length (by simp)
  rw [List.take_left,List.getElem_append_right (Nat.le_refl _)] at hc
  simp only [Nat.sub_self,List.getElem_cons_zero] at hc
  rw [run_snoc,(do_ok hc).1,run_ls n a ha hg]
structure Made (h:Hs):Prop where
 run:h=runH h.ls
 good:GoodL h.ls
theorem made_zero:Made hs0:=⟨rfl,good_nil⟩
theorem Made.step {h:Hs} (m:Made h) (l:List UInt8):Made (doH h l).h:=by
 by_cases hc:(doH h l).c=0
 ·have hl:=(do_ok hc).1
  have hc':=hc
  rw [m.run] at hc'
  refine ⟨?_,?_⟩
  ·rw [hl,run_snoc,← m.run]
  ·rw [hl];exact good_snoc m.good hc'
 ·rw [(do_err hc).1];exact m
theorem made_run {ls:List (List UInt8)} (h:GoodL ls):Made (runH ls):=by
 have e:=run_ls _ ls rfl h
 exact ⟨by rw [e],by rw [e];exact h⟩
theorem ok_run:∀ (n:Nat) (ls:List (List UInt8)),ls.length=n→n≤100000→GoodL ls→HsOk (runH ls)
 | 0,ls,hn,_,_=>by rw [List.length_eq_zero_iff.1 hn];exact ok_zero
 | n + 1,ls,hn,hb,h=>by
  obtain ⟨a,t,rfl⟩:∃ a t,ls=a ++ [t]:=by
   rcases List.eq_nil_or_concat ls with rfl | ⟨a,t,rfl⟩
   ·cases hn
   ·exact ⟨a,t,by rw [List.concat_eq_append]⟩
  have ha:a.length=n:=by simpa using hn
  have hg:=h.take a.length
  rw [List.take_left] at hg
  rw [run_snoc]
  exact do_keeps t (ok_run n a ha (by omega) hg) (by rw [run_ls n a ha hg];omega)
end Go.Proofs.YtbleojodidbhiaaGreatDoor
