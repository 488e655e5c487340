/-  -/
import Derived.Test.YtbleojodidbhiaaGreatDoorBnR
import Derived.Test.YtbleojodidbhiaaGreatDoorBnQ
namespace Go.Proofs.YtbleojodidbhiaaGreatDoor
open Go.RowKit
def isNow (v:Vr):Bool:=decide (v.to=0)
structure Inv (b:Bk):Prop where
 fr:∀ v ∈ b.vs,1≤v.fr∧v.fr≤b.n
 to:∀ v ∈ b.vs,v.to=0∨(1≤v.to∧v.to≤b.n)
 id:∀ v ∈ b.vs,1≤v.ev.id∧v.ev.id≤b.g
 rt:∀ v ∈ b.vs,Rt v.ev
 ew:∀ v ∈ b.vs,EvW v.ev
 one:((b.vs.filter isNow).map (·.ev.id)).Nodup
 n0:0≤b.n
 g0:0≤b.g
 gn:b.g≤b.n
 len:b.vs.length≤b.n
 full:b.vs.length≤120
theorem Inv.ok {b:Bk} (h:Inv b) (hn:b.n≤1000000):BkOk b:=⟨h.full,h.n0,hn,h.g0,by have:=h.gn;omega⟩
theorem inv_zero:Inv ⟨[],0,0⟩:=⟨by simp,by simp,by simp,by simp,by simp,by simp,by simp,by simp,by simp,by simp,by simp⟩
theorem setTo_mem:∀ (l:List Vr) (k:Nat) (t:Int) (v:Vr),v ∈ setTo l k t→∃ u ∈ l,u.ev=v.ev∧u.fr=v.fr∧(v.to=u.to∨v.to=t)
 | [],_,_,v,h=>by cases h
 | u :: l,0,t,v,h=>by
  rcases List.mem_cons.1 h with e | h
  ·exact ⟨u,List.mem_cons_self,by rw [e],by rw [e],Or.inr (by rw [e])⟩
  ·exact ⟨v,List.mem_cons_of_mem _ h,rfl,rfl,Or.inl rfl⟩
 | u :: l,k + 1,t,v,h=>by
  rcases List.mem_cons.1 h with e | h
  ·exact ⟨u,List.mem_cons_self,by rw [e],by rw [e],Or.inl (by rw [e])⟩
  ·obtain ⟨x,hx,h1⟩:=setTo_mem l k t v h
   exact ⟨x,List.mem_cons_of_mem _ hx,h1⟩
theorem setTo_now:∀ (l:List Vr) (k:Nat) (t:Int) (hk:k < l.length),t ≠ 0→l[k].to=0→∃ A C,l.filter isNow=A ++ l[k] :: C∧(setTo l k t).filter isNow=A ++ C
 | [],k,_,hk,_,_=>absurd hk (Nat.not_lt_zero _)
 | u :: l,0,t,_,ht,h0=>by
  have h0':u.to=0:=h0
  refine ⟨[],l.filter isNow,?_,?_⟩
  ·simp [isNow,h0']
  ·simp [setTo,isNow,ht]
 | u :: l,k + 1,t,hk,ht,h0=>by
  obtain ⟨A,C,h1,h2⟩:=setTo_now l k t (by simpa using hk) ht (by simpa using h0)
  by_cases hu:isNow u=true
  ·exact ⟨u :: A,C,by simp only [List.filter_cons,hu,if_true,h1,List.getElem_cons_succ,List.cons_append],by simp only [setTo,List.filter_cons,hu,if_true,h2,List.cons_append]⟩
  ·exact ⟨A,C,by simp only [List.filter_cons,hu,h1,List.getElem_cons_succ];rfl,by simp only [setTo,List.filter_cons,hu,h2];rfl⟩
theorem setTo_at:∀ (l:List Vr) (k:Nat) (t T:Int) (hk:k < l.length),l[k].to=0→t < T→T ≠ 0→((setTo l k T).filter (isAt t)).map (·.ev)=(l.filter (isAt t)).map (·.ev)
 | [],k,_,_,hk,_,_,_=>absurd hk (Nat.not_lt_zero _)
 | u :: l,0,t,T,_,h0,ht,hT=>by
  have h0':u.to=0:=h0
  have e:isAt t ⟨u.ev,u.fr,T⟩=isAt t u:=by simp [isAt,h0',ht]
  simp only [setTo,List.filter_cons,e]
  split <;> simp
 | u :: l,k + 1,t,T,hk,h0,ht,hT=>by
  have ih:=setTo_at l k t T (by simpa using hk) (by simpa using h0) ht hT
  simp only [setTo,List.filter_cons]
  split
  ·simp only [List.map_cons,ih]
  ·exact ih
theorem asOf_now {b:Bk} (h:Inv b):asOf b b.n=(b.vs.filter isNow).map (·.ev):=by
 unfold asOf
 congr 1
 apply List.filter_congr
 intro v hv
 have h1:=(h.fr v hv).2
 have h2:=h.to v hv
 unfold isAt isNow
 by_cases h3:v.to=0
 ·simp [h1,h3]
 ·have h4:¬ b.n < v.to:=by omega
  simp [h3,h4]
theorem asOf_zero {b:Bk} (h:Inv b):asOf b 0=[]:=by
 unfold asOf
 rw [List.map_eq_nil_iff,List.filter_eq_nil_iff]
 intro v hv
 have h1:=(h.fr v hv).1
 have h2:¬ v.fr≤0:=by omega
 simp [isAt,h2]
theorem kIx_at {vs:List Vr} {id:Int} {k:Nat} (hk:k < vs.length) (h:kIx vs id=k):vs[k].ev.id=id∧vs[k].to=0:=by
 rcases kIx_spec vs id with ⟨h1,_⟩ | ⟨j,hj,h1,h2,_⟩
 ·rw [h] at h1;omega
 ·have e:j=k:=by rw [h] at h1;omega
  subst e
  simpa [isK] using h2
theorem isAt_new (t n:Int) (e:Ev) (h:t≤n):isAt t ⟨e,n + 1,0⟩=false:=by
 have:¬ n + 1≤t:=by omega
 simp [isAt,this]
theorem asOf_step {b b':Bk} {x:Ac} (h:Inv b) (hs:StepA b x b') (t:Int) (ht:t≤b.n):asOf b' t=asOf b t:=by
 have n0:=h.n0
 rcases hs with ⟨_,_,_,rfl⟩ | ⟨_,_,_,k,hk,hkx,rfl⟩ | ⟨_,k,hk,hkx,rfl⟩
 ·unfold asOf postB wrB
  simp only [List.filter_append,List.map_append]
  rw [List.filter_cons,isAt_new t b.n _ ht]
  simp
 ·have e:=setTo_at b.vs k t (b.n + 1) hk (kIx_at hk hkx).2 (by omega) (by omega)
  unfold asOf corrB wrB endB
  simp only [List.filter_append,List.map_append]
  rw [List.filter_cons,isAt_new t b.n _ ht,e]
  simp
 ·exact setTo_at b.vs k t (b.n + 1) hk (kIx_at hk hkx).2 (by omega) (by omega)
theorem step_n {b b':Bk} {x:Ac} (hs:StepA b x b'):b'.n=b.n + 1:=by
 rcases hs with ⟨_,_,_,rfl⟩ | ⟨_,_,_,k,hk,hkx,rfl⟩ | ⟨_,k,hk,hkx,rfl⟩ <;> rfl
theorem rt_id {e:Ev} (h:Rt e) (i:Int):Rt { e with id:=i }:=h
theorem ew_id {e:Ev} (h:EvW e) (i:Int) (hi:(Lit.int .i64 i).wf=true):EvW { e with id:=i }:=⟨hi,h.item,h.kind,h.qty,h.price,h.ofI,h.day⟩
theorem wf_small {i:Int} (h0:0≤i) (h1:i≤9223372036854775807):(Lit.int .i64 i).wf=true:=by
 simp [Lit.wf,IntKind.min,IntKind.max,IntKind.signed,IntKind.bits];omega
theorem inv_step {b b':Bk} {x:Ac} (h:Inv b) (he:EvW x.e) (hn:b.n≤1000000) (hs:StepA b x b'):Inv b':=by
 have n0:=h.n0
 have g0:=h.g0
 have gn:=h.gn
 have hl:=h.len
 rcases hs with ⟨_,hr,hlt,rfl⟩ | ⟨_,hr,hlt,k,hk,hkx,rfl⟩ | ⟨_,k,hk,hkx,rfl⟩
 ·refine ⟨fun v hv=>?_,fun v hv=>?_,fun v hv=>?_,fun v hv=>?_,fun v hv=>?_,?_,?_,?_,?_,?_,?_⟩
  ·rcases List.mem_append.1 hv with hv | hv
   ·have:=h.fr v hv;exact ⟨this.1,by show v.fr≤b.n + 1;omega⟩
   ·rw [List.mem_singleton.1 hv];exact ⟨by show 1≤b.n + 1;omega,Int.le_refl _⟩
  ·rcases List.mem_append.1 hv with hv | hv
   ·rcases h.to v hv with h1 | h1
    ·exact Or.inl h1
    ·exact Or.inr ⟨h1.1,by show v.to≤b.n + 1;omega⟩
   ·rw [List.mem_singleton.1 hv];exact Or.inl rfl
  ·rcases List.mem_append.1 hv with hv | hv
   ·have:=h.id v hv;exact ⟨this.1,by show v.ev.id≤b.g + 1;omega⟩
   ·rw [List.mem_singleton.1 hv];exact ⟨by show 1≤b.g + 1;omega,Int.le_refl _⟩
  ·rcases List.mem_append.1 hv with hv | hv
   ·exact h.rt v hv
   ·rw [List.mem_singleton.1 hv];exact rt_id hr _
  ·rcases List.mem_append.1 hv with hv | hv
   ·exact h.ew v hv
   ·rw [List.mem_singleton.1 hv];exact ew_id he _ (wf_small (by omega) (by omega))
  ·show (((b.vs ++ [(⟨{ x.e with id:=b.g + 1 },b.n + 1,0⟩:Vr)]).filter isNow).map fun v=>v.ev.id).Nodup
   rw [List.filter_append,List.map_append,List.nodup_append]
   refine ⟨h.one,?_,fun i hi j hj=>?_⟩
   ·simp [isNow]
   ·obtain ⟨v,hv,rfl⟩:=List.mem_map.1 hi
    have:=(h.id v (List.mem_filter.1 hv).1).2
    have e:j=b.g + 1:=by simpa [isNow] using hj
    omega
  ·show 0≤b.n + 1;omega
  ·show 0≤b.g + 1;omega
  ·show b.g + 1≤b.n + 1;omega
  ·show ((b.vs ++ [_]).length:Int)≤b.n + 1
   rw [List.length_append];simp;omega
  ·show (b.vs ++ [_]).length≤120
   rw [List.length_append];simp;omega
 ·obtain ⟨hid,hto⟩:=kIx_at hk hkx
  obtain ⟨A,C,h1,h2⟩:=setTo_now b.vs k (b.n + 1) hk (by omega) hto
  have hone:=h.one
  rw [h1] at hone
  simp only [List.map_append,List.map_cons] at hone
  have hmem:=h.id b.vs[k] (List.getElem_mem hk)
  rw [hid] at hmem
  refine ⟨fun v hv=>?_,fun v hv=>?_,fun v hv=>?_,fun v hv=>?_,fun v hv=>?_,?_,?_,?_,?_,?_,?_⟩
  ·rcases List.mem_append.1 hv with hv | hv
   ·obtain ⟨u,hu,_,h4,_⟩:=setTo_mem _ _ _ _ hv
    have:=h.fr u hu
    rw [h4] at this
    exact ⟨this.1,by show v.fr≤b.n + 1;omega⟩
   ·rw [List.mem_singleton.1 hv];exact ⟨by show 1≤b.n + 1;omega,Int.le_refl _⟩
  ·rcases List.mem_append.1 hv with hv | hv
   ·obtain ⟨u,hu,_,_,h5⟩:=setTo_mem _ _ _ _ hv
    have h6:=h.to u hu
    show v.to=0∨(1≤v.to∧v.to≤b.n + 1)
    omega
   ·rw [List.mem_singleton.1 hv];exact Or.inl rfl
  ·rcases List.mem_append.1 hv with hv | hv
   ·obtain ⟨u,hu,h3,_⟩:=setTo_mem _ _ _ _ hv
    have:=h.id u hu
    rw [h3] at this
    exact this
   ·rw [List.mem_singleton.1 hv];exact hmem
  ·rcases List.mem_append.1 hv with hv | hv
   ·obtain ⟨u,hu,h3,_⟩:=setTo_mem _ _ _ _ hv
    rw [← h3];exact h.rt u hu
   ·rw [List.mem_singleton.1 hv];exact rt_id hr _
  ·rcases List.mem_append.1 hv with hv | hv
   ·obtain ⟨u,hu,h3,_⟩:=setTo_mem _ _ _ _ hv
    rw [← h3];exact h.ew u hu
   ·rw [List.mem_singleton.1 hv];exact ew_id he _ (wf_small (by omega) (by omega))
  ·show (((setTo b.vs k (b.n + 1) ++ [(⟨{ x.e with id:=x.id },b.n + 1,0⟩:Vr)]).filter isNow).map fun v=>v.ev.id).Nodup
   rw [List.filter_append,h2,List.map_append,List.map_append]
   have e:([(⟨{ x.e with id:=x.id },b.n + 1,0⟩:Vr)].filter isNow).map (·.ev.id)=[x.id]:=by simp [isNow]
   rw [e]
   rw [hid] at hone
   have hp:(A.map (·.ev.id) ++ x.id :: C.map (·.ev.id)).Perm (A.map (·.ev.id) ++ C.map (·.ev.id) ++ [x.id]):=by
    rw [List.append_assoc]
    exact List.Perm.append_left _ (List.perm_append_singleton _ _).symm
   exact hp.nodup hone
  ·show 0≤b.n + 1;omega
  ·exact g0
  ·show b.g≤b.n + 1;omega
  ·show ((setTo b.vs k (b.n + 1) ++ [_]).length:Int)≤b.n + 1
   rw [List.length_append,setTo_len];simp;omega
  ·show (setTo b.vs k (b.n + 1) ++ [_]).length≤120
   rw [List.length_append,setTo_len];simp;omega
 ·obtain ⟨hid,hto⟩:=kIx_at hk hkx
  obtain ⟨A,C,h1,h2⟩:=setTo_now b.vs k (b.n + 1) hk (by omega) hto
  have hone:=h.one
  rw [h1] at hone
  refine ⟨fun v hv=>?_,fun v hv=>?_,fun v hv=>?_,fun v hv=>?_,fun v hv=>?_,?_,?_,?_,?_,?_,?_⟩
  ·obtain ⟨u,hu,_,h4,_⟩:=setTo_mem _ _ _ _ hv
   have:=h.fr u hu
   rw [h4] at this
   exact ⟨this.1,by show v.fr≤b.n + 1;omega⟩
  ·obtain ⟨u,hu,_,_,h5⟩:=setTo_mem _ _ _ _ hv
   have h6:=h.to u hu
   show v.to=0∨(1≤v.to∧v.to≤b.n + 1)
   omega
  ·obtain ⟨u,hu,h3,_⟩:=setTo_mem _ _ _ _ hv
   have:=h.id u hu
   rw [h3] at this
   exact this
  ·obtain ⟨u,hu,h3,_⟩:=setTo_mem _ _ _ _ hv
   rw [← h3];exact h.rt u hu
  ·obtain ⟨u,hu,h3,_⟩:=setTo_mem _ _ _ _ hv
   rw [← h3];exact h.ew u hu
  ·show (((setTo b.vs k (b.n + 1)).filter isNow).map (·.ev.id)).Nodup
   rw [h2]
   exact hone.sublist (List.Sublist.map _ (List.Sublist.append_left (List.sublist_cons_self _ _) _))
  ·show 0≤b.n + 1;omega
  ·exact g0
  ·show b.g≤b.n + 1;omega
  ·show ((setTo b.vs k (b.n + 1)).length:Int)≤b.n + 1
   rw [setTo_len];omega
  ·show (setTo b.vs k (b.n + 1)).length≤120
   rw [setTo_len];exact h.full
theorem now_nodup {b:Bk} (h:Inv b):((srt (asOf b b.n)).map (·.id)).Nodup:=by
 have h1:=h.one
 have h2:((asOf b b.n).map (·.id)).Nodup:=by rw [asOf_now h,List.map_map];exact h1
 exact ((srt_perm _).map _).symm.nodup h2
theorem now_mem {b:Bk} (h:Inv b) (e:Ev) (he:e ∈ srt (asOf b b.n)):Rt e∧EvW e∧1≤e.id:=by
 have h1:=(srt_perm _).mem_iff.1 he
 rw [asOf_now h] at h1
 obtain ⟨v,hv,rfl⟩:=List.mem_map.1 h1
 have hm:=(List.mem_filter.1 hv).1
 exact ⟨h.rt v hm,h.ew v hm,(h.id v hm).1⟩
def bk0:Bk:=⟨[],0,0⟩
theorem srt_one (x:Ev):srt [x]=[x]:=List.perm_singleton.1 (srt_perm [x])
theorem srt_nil:srt []=[]:=List.length_eq_zero_iff.1 (by rw [srt_len];rfl)
theorem book_new (w:World) (B:Nat) (hB:B≤w.heap.size):BookAt (w.alloc (.cells #[.slice none 0 0,.int .i64 0,.int .i64 0] 31)) B w.heap.size (.slice none 0 0) bk0:=
 ⟨by simp,by simp [bk0],by simp [bk0],by simp,by simp,by simp,World.ownsRow_nil _ _ _ _,by simp [Value.ownBlock],hB⟩
end Go.Proofs.YtbleojodidbhiaaGreatDoor
